/-
  Guests that may be, and what comes of them: plain mathematics. No statement is proved here.
-/
import Derived.Test.YtknimnopopnbhaaEm
namespace Go.Proofs.Ytknimnopopnbhaa
open Go.RowKit

theorem domF_kf (ds : List Dom) (id : Int) : domF ds id = kf ds id := rfl
theorem vcF_kf (us : List Vc) (id : Int) : vcF us id = kf us id := rfl
theorem domV_is (ds : List Dom) (id : Int) : (domV ds id).2 = (kf ds id).isSome := by
  unfold domV
  rw [domF_kf]
  cases kf ds id <;> rfl
theorem vcV_is (us : List Vc) (id : Int) : (vcV us id).2 = (kf us id).isSome := by
  unfold vcV
  rw [vcF_kf]
  cases kf us id <;> rfl
theorem kf_is {β : Type} {l : List (Int × β)} {id : Int} (h : (kf l id).isSome = true) : ∃ x, kf l id = some x := by
  cases hk : kf l id with
  | none => rw [hk] at h; cases h
  | some x => exact ⟨x, rfl⟩
theorem kf_isnt {β : Type} {l : List (Int × β)} {id : Int} (h : (kf l id).isSome = false) : kf l id = none := by
  cases hk : kf l id with
  | none => rfl
  | some x => rw [hk] at h; cases h

/-- guests that may be -/
structure RightP (ds : List Dom) (us : List Vc) : Prop where
  rd : Rise ds
  od : ∀ x ∈ ds, rightD x = true
  cd : ∀ x ∈ ds, (ofL us x.1).length ≤ 8
  rv : Rise us
  ov : ∀ v ∈ us, 1 ≤ v.1 ∧ v.1 ≤ 16 ∧ (kf ds v.2.1).isSome = true ∧ rightK v.2.2.1 v.2.2.2 = true
theorem rightD_iff {d : Dom} : rightD d = true ↔ 1 ≤ d.1 ∧ d.1 ≤ 8 ∧ 1 ≤ d.2.1 ∧ d.2.1 ≤ 65535 ∧ 0 ≤ d.2.2.1 ∧ d.2.2.1 ≤ 800 ∧ 0 ≤ d.2.2.2 ∧ d.2.2.2 ≤ 3 := by
  unfold rightD
  simp only [Bool.and_eq_true, decide_eq_true_eq, and_assoc]
theorem RightP.dn {ds : List Dom} {us : List Vc} (h : RightP ds us) : ds.length ≤ 8 := rise_len h.rd (lo := 0) fun y hy => by
  have := rightD_iff.1 (h.od y hy)
  omega
theorem RightP.vn {ds : List Dom} {us : List Vc} (h : RightP ds us) : us.length ≤ 16 := rise_len h.rv (lo := 0) fun y hy => by
  have := h.ov y hy
  omega
theorem rightG_iff {ds : List Dom} {us : List Vc} : rightG ds us = true ↔ RightP ds us := by
  unfold rightG
  rw [Bool.and_eq_true, Bool.and_eq_true, Bool.and_eq_true, decide_eq_true_eq, decide_eq_true_eq, allK_iff, allK_iff]
  constructor
  · rintro ⟨⟨⟨_, _⟩, hd⟩, hv⟩
    have hd2 : ∀ i x, ds[i]? = some x → rightD x = true ∧ (i = 0 ∨ (ds.getD (i - 1) zeroD).1 < x.1) ∧ (ofL us x.1).length ≤ 8 := fun i x hx => by
      have := hd i (List.getElem?_eq_some_iff.1 hx).1
      unfold domOk at this
      rw [dgetD hx] at this
      simp only [Bool.and_eq_true, Bool.or_eq_true, decide_eq_true_eq] at this
      exact ⟨this.1.1, this.1.2, this.2⟩
    have hv2 : ∀ i x, us[i]? = some x → 1 ≤ x.1 ∧ x.1 ≤ 16 ∧ (kf ds x.2.1).isSome = true ∧ rightK x.2.2.1 x.2.2.2 = true ∧ (i = 0 ∨ (us.getD (i - 1) zeroV).1 < x.1) := fun i x hx => by
      have := hv i (List.getElem?_eq_some_iff.1 hx).1
      unfold vcOk at this
      rw [vgetD hx, domV_is] at this
      simp only [Bool.and_eq_true, Bool.or_eq_true, decide_eq_true_eq] at this
      exact ⟨this.1.1.1.1, this.1.1.1.2, this.1.1.2, this.1.2, this.2⟩
    refine ⟨rise_step fun i x y hx hy => ?_, fun x hx => ?_, fun x hx => ?_, rise_step fun i x y hx hy => ?_, fun x hx => ?_⟩
    · rcases (hd2 _ _ hy).2.1 with h | h
      · omega
      · rwa [Nat.add_sub_cancel, dgetD hx] at h
    · obtain ⟨i, hi⟩ := List.mem_iff_getElem?.1 hx
      exact (hd2 i x hi).1
    · obtain ⟨i, hi⟩ := List.mem_iff_getElem?.1 hx
      exact (hd2 i x hi).2.2
    · rcases (hv2 _ _ hy).2.2.2.2 with h | h
      · omega
      · rwa [Nat.add_sub_cancel, vgetD hx] at h
    · obtain ⟨i, hi⟩ := List.mem_iff_getElem?.1 hx
      have := hv2 i x hi
      exact ⟨this.1, this.2.1, this.2.2.1, this.2.2.2.1⟩
  · intro h
    refine ⟨⟨⟨h.dn, h.vn⟩, fun i hi => ?_⟩, fun i hi => ?_⟩
    · obtain ⟨x, hx⟩ := elem_at hi
      unfold domOk
      rw [dgetD hx]
      simp only [Bool.and_eq_true, Bool.or_eq_true, decide_eq_true_eq]
      refine ⟨⟨h.od x (List.mem_of_getElem? hx), ?_⟩, h.cd x (List.mem_of_getElem? hx)⟩
      by_cases h0 : i = 0
      · exact .inl h0
      · obtain ⟨j, rfl⟩ : ∃ j, i = j + 1 := ⟨i - 1, by omega⟩
        obtain ⟨y, hy⟩ := elem_at (l := ds) (k := j) (by omega)
        right
        rw [Nat.add_sub_cancel, dgetD hy]
        exact rise_next h.rd hy hx
    · obtain ⟨x, hx⟩ := elem_at hi
      unfold vcOk
      rw [vgetD hx, domV_is]
      simp only [Bool.and_eq_true, Bool.or_eq_true, decide_eq_true_eq]
      have hm := h.ov x (List.mem_of_getElem? hx)
      refine ⟨⟨⟨⟨hm.1, hm.2.1⟩, hm.2.2.1⟩, hm.2.2.2⟩, ?_⟩
      by_cases h0 : i = 0
      · exact .inl h0
      · obtain ⟨j, rfl⟩ : ∃ j, i = j + 1 := ⟨i - 1, by omega⟩
        obtain ⟨y, hy⟩ := elem_at (l := us) (k := j) (by omega)
        right
        rw [Nat.add_sub_cancel, vgetD hy]
        exact rise_next h.rv hy hx
theorem rightG_no {ds : List Dom} {us : List Vc} (h : RightP ds us → False) : rightG ds us = false := by
  cases hr : rightG ds us with
  | false => rfl
  | true => exact (h (rightG_iff.1 hr)).elim
theorem right_nil : RightP [] [] := ⟨List.Pairwise.nil, (fun _ h => by cases h), (fun _ h => by cases h), List.Pairwise.nil, (fun _ h => by cases h)⟩
/-- a domain alone -/
theorem right_alone (d : Dom) : rightG [d] [] = rightD d := by
  cases hd : rightD d with
  | true =>
    rw [rightG_iff]
    exact ⟨List.pairwise_singleton _ _, (fun x hx => by simp at hx; subst hx; exact hd), (fun x hx => by simp [ofL]), List.Pairwise.nil, (fun _ h => by cases h)⟩
  | false => exact rightG_no fun h => by have := h.od d (by simp); rw [hd] at this; cases this

/-! ### whose they are -/
theorem ofL_nil {us : List Vc} {dom : Int} (h : ∀ v ∈ us, v.2.1 ≠ dom) : ofL us dom = [] := by
  unfold ofL
  rw [List.filter_eq_nil_iff.2 (fun v hv => by simpa using h v hv)]
  rfl
theorem ofL_pos {us : List Vc} {dom : Int} : 0 < (ofL us dom).length ↔ ∃ v ∈ us, v.2.1 = dom := by
  unfold ofL
  rw [List.length_map, List.length_pos_iff_exists_mem]
  constructor
  · rintro ⟨v, hv⟩
    rw [List.mem_filter] at hv
    exact ⟨v, hv.1, by simpa using hv.2⟩
  · rintro ⟨v, h1, h2⟩
    exact ⟨v, List.mem_filter.2 ⟨h1, by simpa using h2⟩⟩
theorem ofL_none {ds : List Dom} {us : List Vc} (h : RightP ds us) {id : Int} (hk : kf ds id = none) : ofL us id = [] := ofL_nil fun v hv e => by
  have := (h.ov v hv).2.2.1
  rw [e, hk] at this
  cases this
theorem len_ofL (us : List Vc) (dom : Int) : (ofL us dom).length = us.countP fun v => v.2.1 == dom := by
  unfold ofL
  rw [List.length_map, List.countP_eq_length_filter]

/-! ### what comes of it may be -/
theorem right_create {ds : List Dom} {us : List Vc} (h : RightP ds us) {d : Dom} (hd : rightD d = true) (hk : kf ds d.1 = none) : RightP (insK ds d) us := by
  refine ⟨rise_ins h.rd hk, fun x hx => ?_, fun x hx => ?_, h.rv, fun v hv => ?_⟩
  · rcases mem_ins.1 hx with e | e
    · subst e; exact hd
    · exact h.od x e
  · rcases mem_ins.1 hx with e | e
    · subst e; rw [ofL_none h hk]; simp
    · exact h.cd x e
  · obtain ⟨h1, h2, h3, h4⟩ := h.ov v hv
    refine ⟨h1, h2, ?_, h4⟩
    rw [kf_ins h.rd hk]
    split
    · rfl
    · exact h3
theorem right_change {ds : List Dom} {us : List Vc} (h : RightP ds us) {d x : Dom} (hd : rightD d = true) (hk : kf ds d.1 = some x) : RightP (setK ds d) us := by
  refine ⟨rise_set h.rd hk, fun y hy => ?_, fun y hy => ?_, h.rv, fun v hv => ?_⟩
  · rcases (mem_set h.rd hk).1 hy with e | e
    · subst e; exact hd
    · exact h.od y e.1
  · rcases (mem_set h.rd hk).1 hy with e | e
    · subst e
      have := h.cd x (kf_some hk).1
      rwa [(kf_some hk).2] at this
    · exact h.cd y e.1
  · obtain ⟨h1, h2, h3, h4⟩ := h.ov v hv
    refine ⟨h1, h2, ?_, h4⟩
    rw [kf_set h.rd hk]
    split
    · rfl
    · exact h3
theorem right_destroy {ds : List Dom} {us : List Vc} (h : RightP ds us) {id : Int} {x : Dom} (hk : kf ds id = some x) (h0 : (ofL us id).length = 0) : RightP (delK ds id) us := by
  refine ⟨rise_del h.rd id, fun y hy => h.od y ((mem_del h.rd hk).1 hy).1, fun y hy => h.cd y ((mem_del h.rd hk).1 hy).1, h.rv, fun v hv => ?_⟩
  obtain ⟨h1, h2, h3, h4⟩ := h.ov v hv
  refine ⟨h1, h2, ?_, h4⟩
  have hne : v.2.1 ≠ id := fun e => by
    have := ofL_pos.2 ⟨v, hv, e⟩
    omega
  rw [kf_del h.rd hk, if_neg hne]
  exact h3
theorem of_ins (us : List Vc) (v : Vc) (dom : Int) : (ofL (insK us v) dom).length = (ofL us dom).length + if v.2.1 = dom then 1 else 0 := by
  rw [len_ofL, len_ofL]
  conv => rhs; rw [← List.take_append_drop (low us v.1) us]
  unfold insK
  rw [List.countP_append, List.countP_append, List.countP_cons]
  by_cases h : v.2.1 = dom
  · simp [h]; omega
  · simp [h]
theorem right_add {ds : List Dom} {us : List Vc} (h : RightP ds us) {v : Vc} (h1 : 1 ≤ v.1) (h16 : v.1 ≤ 16) (hd : (kf ds v.2.1).isSome = true) (hm : rightK v.2.2.1 v.2.2.2 = true) (hk : kf us v.1 = none) (h8 : (ofL us v.2.1).length < 8) : RightP ds (insK us v) := by
  refine ⟨h.rd, h.od, fun x hx => ?_, rise_ins h.rv hk, fun y hy => ?_⟩
  · rw [of_ins]
    split
    · rename_i e; rw [← e]; omega
    · exact h.cd x hx
  · rcases mem_ins.1 hy with e | e
    · subst e; exact ⟨h1, h16, hd, hm⟩
    · exact h.ov y e
theorem of_sub {us vs : List Vc} (h : List.Sublist vs us) (dom : Int) : (ofL vs dom).length ≤ (ofL us dom).length := by
  unfold ofL
  rw [List.length_map, List.length_map]
  exact (h.filter _).length_le
theorem right_drop {ds : List Dom} {us : List Vc} (h : RightP ds us) {id : Int} {v : Vc} (hk : kf us id = some v) : RightP ds (delK us id) :=
  ⟨h.rd, h.od, fun x hx => Nat.le_trans (of_sub (List.eraseIdx_sublist _ _) x.1) (h.cd x hx), rise_del h.rv id, fun y hy => h.ov y ((mem_del h.rv hk).1 hy).1⟩
theorem of_set {us : List Vc} (hR : Rise us) {v w : Vc} (hk : kf us v.1 = some w) (e : w.2.1 = v.2.1) (dom : Int) : (ofL (setK us v) dom).length = (ofL us dom).length := by
  rw [len_ofL, len_ofL, setK_eq hR hk, List.countP_map]
  refine List.countP_congr fun y hy => ?_
  by_cases h : y.1 = v.1
  · have := kf_mem hR hy
    rw [h, hk] at this
    have := Option.some.inj this
    subst this
    simp [h, e]
  · simp [h]
theorem right_remask {ds : List Dom} {us : List Vc} (h : RightP ds us) {v w : Vc} (hk : kf us v.1 = some w) (e : w.2.1 = v.2.1) (hm : rightK v.2.2.1 v.2.2.2 = true) : RightP ds (setK us v) := by
  refine ⟨h.rd, h.od, fun x hx => by rw [of_set h.rv hk e]; exact h.cd x hx, rise_set h.rv hk, fun y hy => ?_⟩
  rcases (mem_set h.rv hk).1 hy with q | q
  · subst q
    obtain ⟨h1, h2, h3, _⟩ := h.ov w (kf_some hk).1
    have := (kf_some hk).2
    exact ⟨by omega, by omega, by rw [← e]; exact h3, hm⟩
  · exact h.ov y q.1

/-! ### what the document makes -/
theorem madeD_mk (ds : List Dom) (d : Dom) (no : Int) (k : Nat) : madeD ds d no k = mk (fun s => if s = no then none else if s = d.1 then some d else kf ds s) k := by
  induction k with
  | zero => rfl
  | succ k ih =>
    unfold madeD mk
    rw [ih]
    congr 1
    split
    · rfl
    · split
      · rfl
      · rfl
theorem madeV_mk (us : List Vc) (v : Vc) (no : Int) (k : Nat) : madeV us v no k = mk (fun s => if s = no then none else if 0 < v.2.1 ∧ s = v.1 then some v else kf us s) k := by
  induction k with
  | zero => rfl
  | succ k ih =>
    unfold madeV mk
    rw [ih]
    congr 1
    split
    · rfl
    · split
      · rfl
      · rfl
theorem fD {ds : List Dom} {d : Dom} {no : Int} : ∀ s y, (if s = no then none else if s = d.1 then some d else kf ds s) = some y → y.1 = s := by
  intro s y h
  by_cases h1 : s = no
  · rw [if_pos h1] at h; cases h
  · rw [if_neg h1] at h
    by_cases h2 : s = d.1
    · rw [if_pos h2] at h; injection h with h; subst h; exact h2.symm
    · rw [if_neg h2] at h; exact (kf_some h).2
theorem fV {us : List Vc} {v : Vc} {no : Int} : ∀ s y, (if s = no then none else if 0 < v.2.1 ∧ s = v.1 then some v else kf us s) = some y → y.1 = s := by
  intro s y h
  by_cases h1 : s = no
  · rw [if_pos h1] at h; cases h
  · rw [if_neg h1] at h
    by_cases h2 : 0 < v.2.1 ∧ s = v.1
    · rw [if_pos h2] at h; injection h with h; subst h; exact h2.2.symm
    · rw [if_neg h2] at h; exact (kf_some h).2
theorem RightP.bd {ds : List Dom} {us : List Vc} (h : RightP ds us) : ∀ y ∈ ds, 1 ≤ y.1 ∧ y.1 ≤ (8 : Nat) := fun y hy => by
  have := rightD_iff.1 (h.od y hy)
  omega
theorem RightP.bv {ds : List Dom} {us : List Vc} (h : RightP ds us) : ∀ y ∈ us, 1 ≤ y.1 ∧ y.1 ≤ (16 : Nat) := fun y hy => by
  have := h.ov y hy
  omega
theorem made_ins {ds : List Dom} {us : List Vc} (h : RightP ds us) {d : Dom} (hd : rightD d = true) (hk : kf ds d.1 = none) : madeD ds d 0 8 = insK ds d := by
  rw [madeD_mk]
  refine mk_eq (rise_ins h.rd hk) fD (right_create h hd hk).bd fun s h1 h8 => ?_
  rw [if_neg (by omega), kf_ins h.rd hk]
theorem made_set {ds : List Dom} {us : List Vc} (h : RightP ds us) {d x : Dom} (hd : rightD d = true) (hk : kf ds d.1 = some x) : madeD ds d 0 8 = setK ds d := by
  rw [madeD_mk]
  refine mk_eq (rise_set h.rd hk) fD (right_change h hd hk).bd fun s h1 h8 => ?_
  rw [if_neg (by omega), kf_set h.rd hk]
theorem made_del {ds : List Dom} {us : List Vc} (h : RightP ds us) {id : Int} {x : Dom} (hk : kf ds id = some x) : madeD ds zeroD id 8 = delK ds id := by
  rw [madeD_mk]
  refine mk_eq (rise_del h.rd id) fD (fun y hy => h.bd y ((mem_del h.rd hk).1 hy).1) fun s h1 h8 => ?_
  rw [kf_del h.rd hk]
  split
  · rfl
  · rw [if_neg (show ¬ s = zeroD.1 from fun e => by have : s = 0 := e; omega)]
theorem made_same {ds : List Dom} {us : List Vc} (h : RightP ds us) : madeD ds zeroD 0 8 = ds := by
  rw [madeD_mk]
  refine mk_eq h.rd fD h.bd fun s h1 h8 => ?_
  rw [if_neg (by omega), if_neg (show ¬ s = zeroD.1 from fun e => by have : s = 0 := e; omega)]
theorem madeV_same {ds : List Dom} {us : List Vc} (h : RightP ds us) : madeV us zeroV 0 16 = us := by
  rw [madeV_mk]
  refine mk_eq h.rv fV h.bv fun s h1 h8 => ?_
  rw [if_neg (by omega), if_neg (fun e => by have : (0 : Int) < 0 := e.1; omega)]
theorem madeV_ins {ds : List Dom} {us : List Vc} (h : RightP ds us) {v : Vc} (h1 : 1 ≤ v.1) (h16 : v.1 ≤ 16) (hd : 0 < v.2.1) (hk : kf us v.1 = none) : madeV us v 0 16 = insK us v := by
  rw [madeV_mk]
  refine mk_eq (rise_ins h.rv hk) fV (fun y hy => ?_) fun s h1 h8 => ?_
  · rcases mem_ins.1 hy with e | e
    · subst e; exact ⟨h1, by omega⟩
    · exact h.bv y e
  · rw [if_neg (by omega), kf_ins h.rv hk]
    by_cases e : s = v.1
    · rw [if_pos ⟨hd, e⟩, if_pos e]
    · rw [if_neg (fun q => e q.2), if_neg e]
theorem madeV_set {ds : List Dom} {us : List Vc} (h : RightP ds us) {v w : Vc} (hd : 0 < v.2.1) (hk : kf us v.1 = some w) : madeV us v 0 16 = setK us v := by
  rw [madeV_mk]
  refine mk_eq (rise_set h.rv hk) fV (fun y hy => ?_) fun s h1 h8 => ?_
  · rcases (mem_set h.rv hk).1 hy with e | e
    · subst e
      have := h.bv w (kf_some hk).1
      rwa [(kf_some hk).2] at this
    · exact h.bv y e.1
  · rw [if_neg (by omega), kf_set h.rv hk]
    by_cases e : s = v.1
    · rw [if_pos ⟨hd, e⟩, if_pos e]
    · rw [if_neg (fun q => e q.2), if_neg e]
theorem madeV_del {ds : List Dom} {us : List Vc} (h : RightP ds us) {id : Int} {x : Vc} (hk : kf us id = some x) : madeV us zeroV id 16 = delK us id := by
  rw [madeV_mk]
  refine mk_eq (rise_del h.rv id) fV (fun y hy => h.bv y ((mem_del h.rv hk).1 hy).1) fun s h1 h8 => ?_
  rw [kf_del h.rv hk]
  split
  · rfl
  · rw [if_neg (fun e => by have : (0 : Int) < 0 := e.1; omega)]
theorem dom_pos {ds : List Dom} {us : List Vc} (h : RightP ds us) {id : Int} (hk : (kf ds id).isSome = true) : 0 < id := by
  obtain ⟨x, hx⟩ := kf_is hk
  have := h.bd x (kf_some hx).1
  have := (kf_some hx).2
  omega

end Go.Proofs.Ytknimnopopnbhaa
