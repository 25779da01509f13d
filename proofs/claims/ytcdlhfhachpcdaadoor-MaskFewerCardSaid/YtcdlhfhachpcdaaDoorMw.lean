/-
  The landed mask: Choice, Fits, Most; an append that leaves what was kept. No statement is proved here.
-/
import Derived.Test.YtcdlhfhachpcdaaDoorMv
import Derived.Test.YtcdlhfhachpcdaaDoorMg
namespace Go.Proofs.YtcdlhfhachpcdaaDoor
open Go.RowKit

section
variable {P : Program} (w : World)
/-- what is appended to is owned still -/
theorem append_keeps (base : Nat) (t ty e : TypeId) (i : TypeInfo) (z : Value) (size bytes : Nat) (ht : P.underlying t = some (.slice e)) (hi : P.info? e = some i) (hz : i.zero = some z)
    (hsize : i.size = size) (hby : i.bytes = bytes) (hzs : z.cells.size = size) (hsz : 0 < size)
    (v : Value) (n : Nat) (xs : List Value) (hown : w.ownsRow base e size v n xs)
    (a : Addr) (m c : Nat) (news : List Value) (hl : news.length = m * size) (hnews : ∀ j u, news[j]? = some u → w.cell? (a.add j) = some u) (h1 : ∀ u ∈ news, u.oneCell' = true)
    (h63 : n + m ≤ maxLen) (hbytes : (n + m) * bytes ≤ 140737488355328) (hbase : base ≤ w.heap.size) :
    ∃ v' w', (Builtin.append_ #[t, t] ty #[v, .slice (some a) m c]).run P w = .ok v' w' ∧ w'.ownsRow base e size v' (n + m) (xs ++ news) ∧ w'.ownsRow base e size v n xs ∧ w.grownBy w' v.ownBlock := by
  obtain ⟨v', w', hrun, h2, h3, _, _⟩ := run_append_own_at (P := P) w base t ty e i z size bytes ht hi hz hsize hby hzs hsz v n xs hown a m c news hl hnews h1 h63 hbytes hbase
  refine ⟨v', w', hrun, h2, ?_, h3⟩
  rcases hown.2 with ⟨rfl, h0⟩ | ⟨g, cap, cur, rfl, hbg, hg, hnc, hcm, hcs, htake⟩
  · exact ⟨hown.1, .inl ⟨rfl, h0⟩⟩
  · subst hsize
    by_cases hroom : n + m ≤ cap
    · have hfit : n * i.size + news.length ≤ cur.size := by rw [hl, hcs, ← Nat.add_mul]; exact Nat.mul_le_mul_right _ hroom
      rw [run_append_room (P := P) w t ty e i ht hi g n cap cur hg a m c news hl hnews h1 hroom hfit] at hrun
      injection hrun with _ hw
      subst hw
      refine ⟨hown.1, .inr ⟨g, cap, _, rfl, hbg, setRow_heap w g cur _ e _ hg, hnc, hcm, ?_, ?_⟩⟩
      · simp only [List.size_toArray, List.length_append, List.length_take, List.length_drop, Array.length_toList]
        omega
      · have hle : n * i.size ≤ cur.size := Nat.le_trans (Nat.le_add_right _ _) hfit
        have hlen : (cur.toList.take (n * i.size)).length = n * i.size := by rw [List.length_take, Array.length_toList]; omega
        show ((cur.toList.take (n * i.size) ++ news) ++ _).take (n * i.size) = xs
        rw [List.append_assoc, List.take_append_of_le_length (by omega), List.take_of_length_le (by omega), htake]
    · have holds : ∀ j u, xs[j]? = some u → w.cell? ((⟨g, 0, none⟩ : Addr).add j) = some u := hown.cells (g := g) rfl
      have hsmall : n + m ≤ 9223372036854775807 := by simp only [maxLen] at h63; omega
      rw [run_append_grow (P := P) w t ty e i z ht hi hz ⟨g, 0, none⟩ n cap xs hown.1 holds a m c news hl hnews (by omega) (by omega) (growslice_fits (by omega) (by rw [hby]; exact hbytes))] at hrun
      injection hrun with _ hw
      subst hw
      exact World.ownsRow.alloc (World.ownsRow.drew hown) _
theorem wpList_append_keeps {ops : Array Oper} {rest : List Oper} {o : Oper} {a : Act} {Q : Exit → Act → World → Prop} (hgd : o.guard = none) (s x : Operand) (t : TypeId)
    (ho : o.op = .call { callee := .builtin .append, args := #[s, x], argTypes := #[t, t] })
    (base : Nat) (e : TypeId) (i : TypeInfo) (z : Value) (size bytes : Nat) (ht : P.underlying t = some (.slice e)) (hi : P.info? e = some i) (hz : i.zero = some z)
    (hsize : i.size = size) (hby : i.bytes = bytes) (hzs : z.cells.size = size) (hsz : 0 < size)
    (v : Value) (n : Nat) (xs : List Value) (hs : a.eval s = v) (hown : w.ownsRow base e size v n xs)
    (ad : Addr) (m c : Nat) (news : List Value) (hx : a.eval x = .slice (some ad) m c) (hl : news.length = m * size) (hnews : ∀ j u, news[j]? = some u → w.cell? (ad.add j) = some u) (h1 : ∀ u ∈ news, u.oneCell' = true)
    (h63 : n + m ≤ maxLen) (hbytes : (n + m) * bytes ≤ 140737488355328) (hbase : base ≤ w.heap.size)
    (h : ∀ v' w', w'.ownsRow base e size v' (n + m) (xs ++ news) → w'.ownsRow base e size v n xs → w.grownBy w' v.ownBlock → wpList P ops Q rest (a.put o.dst v') w') :
    wpList P ops Q (o :: rest) a w := by
  refine wpList_plain hgd fun K hK => ?_
  obtain ⟨v', w', hr, h2, h3, h4⟩ := append_keeps (P := P) w base t o.type e i z size bytes ht hi hz hsize hby hzs hsz v n xs hown ad m c news hl hnews h1 h63 hbytes hbase
  unfold Oper.wp execOp
  simp only [ho, resolve, invoke, builtin, Sem.run_bind, Sem.run_pure, Result.andThen_ok, List.map_toArray, List.map_cons, List.map_nil, hs, hx, hr]
  exact hK _ _ (h v' w' h2 h3 h4)
end

theorem all_right {l : List (Int × Int)} (h : l.all rightM = true) : ∀ (k : Nat) (m : Int × Int), l[k]? = some m → rightM m = true := fun _ _ hk => List.all_eq_true.1 h _ (List.mem_of_getElem? hk)
theorem choose_any (A : Option Addr) (n c : Nat) (l : List (Int × Int)) (s : Nat) (w : World) (h : MAt w A n c l) (hAll : l.all rightM = true) (h8 : s < 256) :
    Calls Tryd.prog 34 #[.slice A n c, .int .u32 (s : Int)] w (ListsC w (if fitsN (hards l) s = true then ints (firstL (hards l) s) else []) (fitsN (hards l) s)) := by
  cases hf : fitsN (hards l) s with
  | true => exact choose_yes A n c l s w h.1 h.2.2.2.2 (all_right hAll) h.2.2.2.1 h.2.2.1 h8 hf
  | false => exact choose_no A n c l s w h.1 h.2.2.2.2 (all_right hAll) h.2.2.2.1 h.2.2.1 h8 hf
theorem fits_iff {l : List (Int × Int)} {s : Nat} : mostN (hards l) s = l.length ↔ fitsN (hards l) s = true := by
  unfold fitsN
  rw [beq_iff_eq, length_hards]

set_option maxRecDepth 100000 in
set_option maxHeartbeats 2000000 in
theorem choice_any (A : Option Addr) (n c : Nat) (l : List (Int × Int)) (s : Int) (w : World) (h : MAt w A n c l) (hs : U32 s) : Calls Tryd.prog 19 #[.slice A n c, .int .u32 s] w (GetsL (choiceR l s) w) := by
  have HR := Lib.hid (refused_any A n c l s w h.1 h.2.2.2.1 (by have := h.2.2.1; omega) hs)
  by_cases hE : errM l s = 0
  · obtain ⟨hall, h256, h16⟩ := err_none hE
    obtain ⟨S, rfl⟩ := Int.eq_ofNat_of_zero_le hs.1
    have HC := Lib.hid (fun (u : World) (hb : Below w.heap.size w u) => choose_any A n c l S u (h.below hb) hall (by omega))
    have hv : choiceR l (S : Int) = if fitsN (hards l) S = true then (ints (firstL (hards l) S), 0) else ([], 4) := by
      unfold choiceR
      rw [if_pos hE, Int.toNat_natCast]
      by_cases hf : fitsN (hards l) S = true
      · rw [if_pos hf, if_pos (fits_iff.2 hf)]
      · rw [if_neg hf, if_neg (fun h => hf (fits_iff.1 h))]
    rw [hv]
    rw [hE] at HR
    cases hf : fitsN (hards l) S with
    | true =>
      rw [hf, if_pos rfl] at HC
      rw [if_pos rfl]
      clear h hs hE hall h256 h16 hv hf
      go_enter Tryd.func19, Tryd.ntmps19
      go_wp2_with fail
      refine HR.out.mono ?_
      rintro e w2 ⟨rfl, h2⟩
      go_wp2_with fail
      refine (HC.out _ h2).mono ?_
      rintro e w3 ⟨A3, n3, c3, rfl, hn3, hc3, r3, h3⟩
      have HE : Hid (GetsL (ints (firstL (hards l) S), 0) w (.returned (.tuple #[.slice A3 n3 c3, .int .i64 0])) w3) := Lib.hid ⟨A3, n3, c3, rfl, hn3, hc3, r3, h2.trans (h3.mono h2.size)⟩
      clear hn3 hc3 r3 h3 h2
      go_wp2
      go_ret2
      exact HE.out
    | false =>
      rw [hf, if_neg (by simp)] at HC
      rw [if_neg (by simp)]
      clear h hs hE hall h256 h16 hv hf
      go_enter Tryd.func19, Tryd.ntmps19
      go_wp2_with fail
      refine HR.out.mono ?_
      rintro e w2 ⟨rfl, h2⟩
      go_wp2_with fail
      refine (HC.out _ h2).mono ?_
      rintro e w3 ⟨A3, n3, c3, rfl, hn3, hc3, r3, h3⟩
      have HE : Hid (GetsL ([], 4) w (.returned (.tuple #[.slice none 0 0, .int .i64 4])) w3) := Lib.hid ⟨none, 0, 0, rfl, rfl, Nat.le_refl _, Reads.none_, h2.trans (h3.mono h2.size)⟩
      clear hn3 hc3 r3 h3 h2
      go_wp2
      go_ret2
      exact HE.out
  · have hv : choiceR l s = ([], errM l s) := if_neg hE
    rw [hv]
    have hz : (errM l s == 0) = false := by simpa using hE
    generalize errM l s = E at *
    clear h hs hE hv
    go_enter Tryd.func19, Tryd.ntmps19
    go_wp2_with fail
    refine HR.out.mono ?_
    rintro e w2 ⟨rfl, h2⟩
    have HE : Hid (GetsL ([], E) w (.returned (.tuple #[.slice none 0 0, .int .i64 E])) w2) := Lib.hid ⟨none, 0, 0, rfl, rfl, Nat.le_refl _, Reads.none_, h2⟩
    clear h2
    go_wp2
    go_ret2
    exact HE.out
theorem mchoice_ok : MChoiceOk := fun A n c l s u h hs => choice_any A n c l s u h hs

set_option maxRecDepth 100000 in
set_option maxHeartbeats 2000000 in
theorem fits_any (A : Option Addr) (n c : Nat) (l : List (Int × Int)) (s : Int) (w : World) (h : MAt w A n c l) (hs : U32 s) : Calls Tryd.prog 21 #[.slice A n c, .int .u32 s] w (Said (.bool (fitsR l s)) w) := by
  have HC := Lib.hid (choice_any A n c l s w h hs)
  have hv : fitsR l s = ((choiceR l s).2 == 0) := by
    unfold fitsR choiceR
    by_cases hE : errM l s = 0
    · rw [if_pos hE, decide_eq_true hE]
      by_cases hf : mostN (hards l) s.toNat = l.length
      · rw [if_pos hf, decide_eq_true hf]; rfl
      · rw [if_neg hf, decide_eq_false hf]; rfl
    · rw [if_neg hE, decide_eq_false hE]
      have : (errM l s == 0) = false := by simpa using hE
      show false = (errM l s == 0)
      rw [this]
  rw [hv]
  generalize choiceR l s = r at *
  obtain ⟨r1, r2⟩ := r
  clear h hs hv
  go_enter Tryd.func21, Tryd.ntmps21
  go_wp2_with fail
  refine HC.out.mono ?_
  rintro e w3 ⟨A3, n3, c3, rfl, hn3, hc3, r3, h3⟩
  clear hn3 hc3 r3
  go_wp2
  go_ret
  exact ⟨rfl, h3⟩
theorem mfits_ok : MFitsOk := fun A n c l s u h hs => fits_any A n c l s u h hs

end Go.Proofs.YtcdlhfhachpcdaaDoor
