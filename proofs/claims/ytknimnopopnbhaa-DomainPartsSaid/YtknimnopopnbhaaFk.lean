/-
  Pool by pool: no number twice; the weights' sum; a guarded look-up (for DomainParts' walk). No statement is proved here.
-/
import Derived.Test.YtknimnopopnbhaaFj
import Derived.Maps.OwnSet
namespace Go.Proofs.Ytknimnopopnbhaa
open Go.RowKit Go.Maps

/-- the weights of the first p pools together -/
def wpK (ds : List Dom) (us : List Vc) : Nat → Int
  | 0 => 0
  | p + 1 => wpK ds us p + weighK ds us (p : Int) ds.length
theorem wpK_bound {ds : List Dom} {us : List Vc} (h : RightP ds us) : ∀ p, 0 ≤ wpK ds us p ∧ wpK ds us p ≤ 524280 * (p : Int)
  | 0 => by simp [wpK]
  | p + 1 => by
    have ih := wpK_bound h p
    have hb := weigh_bound h (p : Int) ds.length
    have := h.dn
    unfold wpK
    omega
theorem wpK_step {ds : List Dom} {us : List Vc} (h : RightP ds us) {p : Nat} (hp : p < 1000) : wrap64 (wpK ds us p + weighK ds us (p : Int) ds.length) = wpK ds us (p + 1) := by
  have ih := wpK_bound h p
  have hb := weigh_bound h (p : Int) ds.length
  have := h.dn
  show wrap64 (wpK ds us p + weighK ds us (p : Int) ds.length) = wpK ds us p + weighK ds us (p : Int) ds.length
  unfold wrap64
  omega
theorem wpK_all {ds : List Dom} {us : List Vc} (h : RightP ds us) : wpK ds us 4 = wsK ds us ds.length := by
  rw [← weights_all h ds.length (Nat.le_refl _)]
  simp [wpK]
theorem pool_take {ds : List Dom} {us : List Vc} (hP : RightP ds us) (k : Nat) {j : Nat} {v : Int} (hv : (inL ds us (k : Int))[j]? = some v) : v ∉ partsK (byPool ds) us k ++ (inL ds us (k : Int)).take j := by
  rw [List.mem_append]
  have hm : v ∈ inL ds us (k : Int) := List.mem_of_getElem? hv
  rintro (h | h)
  · obtain ⟨i, hi, u, hu, h1, h2⟩ := (mem_parts _ _).1 h
    rw [← byPool_of] at hm
    obtain ⟨u', hu', h3, h4⟩ := mem_ids.1 hm
    have e : u = u' := by
      have a := kf_mem hP.rv hu
      have b := kf_mem hP.rv hu'
      rw [h2, ← h4, b] at a
      injection a with a
      exact a.symm
    subst e
    have := pool_disj h1 h3
    omega
  · exact parts_take.nodup_take (by rw [← byPool_of]; exact ids_nodup hP.rv _) hv h
theorem pool_one (ds : List Dom) (us : List Vc) (j j' : Nat) (v : Vc) (_ : v ∈ us) (h1 : byPool ds j v = true) (h2 : byPool ds j' v = true) : j = j' := pool_disj h1 h2
theorem pool_len {ds : List Dom} {us : List Vc} (hP : RightP ds us) (k : Nat) : (partsK (byPool ds) us k).length ≤ 16 := by
  rw [len_parts (pool_one ds us)]
  have := hP.vn
  have := List.countP_le_length (p := inSome (byPool ds) k) (l := us)
  omega
theorem in_le {ds : List Dom} {us : List Vc} (hP : RightP ds us) (k : Nat) : (inL ds us (k : Int)).length ≤ 16 := by
  rw [← byPool_of]
  unfold idsL
  rw [List.length_map]
  have := List.length_filter_le (byPool ds k) us
  have := hP.vn
  omega
/-- each is counted -/
theorem dom_in {ds : List Dom} {us : List Vc} (hP : RightP ds us) {v : Vc} (hv : v ∈ us) : v.1 ∈ partsK (byDom ds) us ds.length := by
  obtain ⟨j, hj, h⟩ := dom_all hP hv
  exact (mem_parts _ _).2 ⟨j, hj, v, hv, h, rfl⟩
theorem pool_in {ds : List Dom} {us : List Vc} (hP : RightP ds us) {v : Vc} (hv : v ∈ us) : v.1 ∈ partsK (byPool ds) us 4 := by
  obtain ⟨j, hj, h⟩ := pool_all hP hv
  exact (mem_parts _ _).2 ⟨j, hj, v, hv, h, rfl⟩
theorem dom_size {H : Type} {ds : List Dom} {us : List Vc} (hP : RightP ds us) : size (cnt (H := H) (partsK (byDom ds) us ds.length)) = us.length := by
  rw [cnt_size _ (parts_nodup hP.rv (fun j j' v hv => dom_one hP j j' v hv) _), len_all (fun j j' v hv => dom_one hP j j' v hv) (fun v hv => dom_all hP hv)]
theorem pool_size {H : Type} {ds : List Dom} {us : List Vc} (hP : RightP ds us) : size (cnt (H := H) (partsK (byPool ds) us 4)) = us.length := by
  rw [cnt_size _ (parts_nodup hP.rv (pool_one ds us) _), len_all (pool_one ds us) (fun v hv => pool_all hP hv)]
theorem vid_wf {ds : List Dom} {us : List Vc} (hP : RightP ds us) {v : Vc} (hv : v ∈ us) : (Lit.int .i64 v.1).wf = true := by
  have := hP.ov v hv
  rw [show v.1 = wrap64 v.1 by unfold wrap64; omega]
  exact wrap64_wf _
theorem vid_range {ds : List Dom} {us : List Vc} (hP : RightP ds us) {v : Vc} (hv : v ∈ us) : 1 ≤ v.1 ∧ v.1 ≤ 16 := by
  have := hP.ov v hv
  omega
section
variable {P : Program} {ops : Array Oper} {Q : Exit → Act → World → Prop} {a : Act} {w : World} {rest : List Oper} {o : Oper}
/-- a look-up that is wanted (its guard says so), in a map of numbers -/
theorem wpList_lookup_wanted (h0 : Region.wanted o (yielded ops a.tmps) = true) (m x : Operand) (t : TypeId) (hop : o.op = Op.lookup t m x false)
    (k e : TypeId) (q : IntKind) (K : Keyed P k) (ht : P.underlying t = some (.map k e)) (he : P.underlying e = some (.int q)) (hz : (zeroValue e).run P w = .ok (.int q 0) w) (b n : Nat) (D : DataW Unit)
    (hm : a.eval m = .map (some b)) (hown : w.ownsMap P k (plainElem P e) b n D) (key : Value) (kl : Lit) (hx : a.eval x = key) (hkey : keyOf P k key = some kl)
    (hK : ∀ c : Int, D.atKey kl (.lit (.int q 0)) = .lit (.int q c) → (Lit.int q c).wf = true → wpList P ops Q rest (a.put o.dst (.int q c)) w) :
    wpList P ops Q (o :: rest) a w := by
  refine wpList_step fun K' hK' => ?_
  simp only [h0, if_true]
  obtain ⟨c, hrun, hat, hwc⟩ := hown.lookup_int K ht he hz hkey
  unfold Oper.wp
  simp [execOp, hop, hm, hx, hrun, Result.andThen]
  exact hK' _ _ (hK c hat hwc)
/-- the length of a map of numbers, wanted or not guarded -/
theorem wpList_len_wanted (h0 : Region.wanted o (yielded ops a.tmps) = true) (m : Operand) (t : TypeId) (hop : o.op = Op.call { callee := Callee.builtin Builtin.len, args := #[m], argTypes := #[t] })
    (k e : TypeId) (ht : P.underlying t = some (.map k e)) (R : Value → Option (DataW Unit × List MemPlace)) (b n : Nat) (D : DataW Unit) (hm : a.eval m = .map (some b)) (hown : w.ownsMap P k R b n D) (s : Nat) (hs : size D = s)
    (hK : wpList P ops Q rest (a.put o.dst (.int .i64 (s : Int))) w) :
    wpList P ops Q (o :: rest) a w := by
  refine wpList_step fun K' hK' => ?_
  simp only [h0, if_true]
  subst hs
  unfold Oper.wp
  simp [execOp, hop, resolve, invoke, builtin, hm, hown.len ht o.type, Result.andThen]
  exact hK' _ _ hK
end
end Go.Proofs.Ytknimnopopnbhaa
