/-
  What was done and is undone leads back (mathematics). No statement is proved here.
-/
import Derived.Test.YtknimnopopnbhaaFc
namespace Go.Proofs.Ytknimnopopnbhaa
open Go.RowKit

theorem isok_no {E : Int} {D : List Dom} {V : List Vc} {D' : List Dom} {V' : List Vc} (h : IsOk E D V D' V') (hE : ¬ E = 0) : D = [] ∧ V = [] := by
  rcases h with ⟨_, h1, h2⟩ | ⟨h0, _⟩
  · exact ⟨h1, h2⟩
  · exact absurd h0 hE
theorem back_create {ds D : List Dom} {us V : List Vc} {x : Dom} (hP : RightP ds us) (h : createQ ds us x = (D, V, 0)) : RightP D V ∧ destroyQ D V x.1 = (ds, us, 0) := by
  unfold createQ at h
  rw [if_pos (rightG_iff.2 hP)] at h
  by_cases hd : rightD x = true
  · rw [if_pos hd] at h
    by_cases hk : (kf ds x.1).isSome = true
    · rw [if_pos hk] at h; simp at h
    · rw [if_neg hk] at h
      have hn := kf_isnt (by simpa using hk)
      obtain ⟨rfl, rfl, _⟩ : insK ds x = D ∧ us = V ∧ True := by simpa using h
      have hP2 := right_create hP hd hn
      refine ⟨hP2, ?_⟩
      unfold destroyQ
      rw [if_pos (rightG_iff.2 hP2), if_pos (by rw [kf_ins hP.rd hn, if_pos rfl]; rfl), if_neg (by rw [ofL_none hP hn]; simp), del_ins hP.rd hn]
  · rw [if_neg hd] at h; simp at h
theorem back_change {ds D : List Dom} {us V : List Vc} {x y : Dom} (hP : RightP ds us) (hy : (domQ ds us x.1).1 = y) (h : changeQ ds us x = (D, V, 0)) : RightP D V ∧ changeQ D V y = (ds, us, 0) := by
  unfold changeQ at h
  rw [if_pos (rightG_iff.2 hP)] at h
  by_cases hd : rightD x = true
  · rw [if_pos hd] at h
    by_cases hk : (kf ds x.1).isSome = true
    · rw [if_pos hk] at h
      obtain ⟨z, hz⟩ := kf_is hk
      have hq : domQ ds us x.1 = (z, true) := by unfold domQ; rw [if_pos (rightG_iff.2 hP)]; exact domV_some hz
      rw [hq] at hy
      obtain rfl : z = y := hy
      obtain ⟨rfl, rfl, _⟩ : setK ds x = D ∧ us = V ∧ True := by simpa using h
      have hP2 := right_change hP hd hz
      refine ⟨hP2, ?_⟩
      unfold changeQ
      rw [if_pos (rightG_iff.2 hP2), if_pos (hP.od z (kf_some hz).1), if_pos (by rw [kf_set hP.rd hz, if_pos (kf_some hz).2]; rfl), set_set hP.rd hz]
    · rw [if_neg hk] at h; simp at h
  · rw [if_neg hd] at h; simp at h
theorem back_destroy {ds D : List Dom} {us V : List Vc} {id : Int} {y : Dom} (hP : RightP ds us) (hy : (domQ ds us id).1 = y) (h : destroyQ ds us id = (D, V, 0)) : RightP D V ∧ createQ D V y = (ds, us, 0) := by
  unfold destroyQ at h
  rw [if_pos (rightG_iff.2 hP)] at h
  by_cases hk : (kf ds id).isSome = true
  · rw [if_pos hk] at h
    by_cases h0 : 0 < (ofL us id).length
    · rw [if_pos h0] at h; simp at h
    · rw [if_neg h0] at h
      obtain ⟨z, hz⟩ := kf_is hk
      have hq : domQ ds us id = (z, true) := by unfold domQ; rw [if_pos (rightG_iff.2 hP)]; exact domV_some hz
      rw [hq] at hy
      obtain rfl : z = y := hy
      obtain ⟨rfl, rfl, _⟩ : delK ds id = D ∧ us = V ∧ True := by simpa using h
      have hP2 := right_destroy hP hz (by omega)
      have hid := (kf_some hz).2
      refine ⟨hP2, ?_⟩
      unfold createQ
      rw [if_pos (rightG_iff.2 hP2), if_pos (hP.od z (kf_some hz).1), if_neg (by rw [kf_del hP.rd hz, if_pos hid]; simp)]
      subst hid
      rw [ins_del hP.rd hz]
  · rw [if_neg hk] at h; simp at h
theorem back_add {ds D : List Dom} {us V : List Vc} {dom id : Int} {a b : Nat} (hP : RightP ds us) (h : addQ ds us dom a b = (D, V, id, 0)) : RightP D V ∧ dropQ D V id = (ds, us, 0) := by
  unfold addQ at h
  by_cases h0 : unE ds us dom a b = 0
  · rw [if_pos h0] at h
    obtain ⟨_, hk, hm, hl, h8⟩ := un_right h0
    obtain ⟨g, hg⟩ := gap_exists hP.rv (fun y hy => (hP.ov y hy).1)
    have hf := free_gap hP.rv hg (by omega)
    have hgl := hg.1
    have hn := gap_none hg
    rw [hf, show ((g + 1 : Nat) : Int) = (g : Int) + 1 by omega] at h
    obtain ⟨rfl, rfl, rfl, _⟩ : ds = D ∧ insK us ((g : Int) + 1, dom, a, b) = V ∧ (g : Int) + 1 = id ∧ True := by simpa using h
    have hP2 := right_add hP (v := ((g : Int) + 1, dom, a, b)) (by show (1 : Int) ≤ (g : Int) + 1; omega) (by show (g : Int) + 1 ≤ 16; omega) hk hm hn h8
    refine ⟨hP2, ?_⟩
    unfold dropQ
    rw [if_pos (rightG_iff.2 hP2), if_pos (by rw [kf_ins hP.rv (x := ((g : Int) + 1, dom, a, b)) hn, if_pos rfl]; rfl)]
    have := del_ins hP.rv (x := ((g : Int) + 1, dom, a, b)) hn
    rw [show delK (insK us ((g : Int) + 1, dom, a, b)) ((g : Int) + 1) = us from this]
  · rw [if_neg h0] at h
    simp at h
    exact absurd h.2.2.2 h0
theorem back_drop {ds D : List Dom} {us V : List Vc} {id : Int} (hP : RightP ds us) (h : dropQ ds us id = (D, V, 0)) : RightP D V := by
  unfold dropQ at h
  rw [if_pos (rightG_iff.2 hP)] at h
  by_cases hk : (kf us id).isSome = true
  · rw [if_pos hk] at h
    obtain ⟨z, hz⟩ := kf_is hk
    obtain ⟨rfl, rfl, _⟩ : ds = D ∧ delK us id = V ∧ True := by simpa using h
    exact right_drop hP hz
  · rw [if_neg hk] at h; simp at h
theorem back_remask {ds D : List Dom} {us V : List Vc} {id y1 y2 : Int} {a b y3 y4 : Nat} (hP : RightP ds us) (hy : (vcQ ds us id).1 = (y1, y2, y3, y4)) (h : remaskQ ds us id a b = (D, V, 0)) : RightP D V ∧ remaskQ D V id y3 y4 = (ds, us, 0) := by
  unfold remaskQ at h
  rw [if_pos (rightG_iff.2 hP)] at h
  by_cases hk : (kf us id).isSome = true
  · rw [if_pos hk] at h
    by_cases hm : rightK a b = true
    · rw [if_pos hm] at h
      obtain ⟨⟨z1, z2, z3, z4⟩, hz⟩ := kf_is hk
      have hv : vcV us id = ((z1, z2, z3, z4), true) := vcV_some hz
      have hq : vcQ ds us id = ((z1, z2, z3, z4), true) := by unfold vcQ; rw [if_pos (rightG_iff.2 hP)]; exact hv
      rw [hq] at hy
      obtain ⟨rfl, rfl, rfl, rfl⟩ : z1 = y1 ∧ z2 = y2 ∧ z3 = y3 ∧ z4 = y4 := by simpa using hy
      rw [hv] at h
      have hid : z1 = id := (kf_some hz).2
      subst hid
      obtain ⟨rfl, rfl, _⟩ : ds = D ∧ setK us (z1, z2, a, b) = V ∧ True := by simpa using h
      have hP2 := right_remask hP (v := (z1, z2, a, b)) hz rfl hm
      refine ⟨hP2, ?_⟩
      have hkv : kf (setK us (z1, z2, a, b)) z1 = some (z1, z2, a, b) := by rw [kf_set hP.rv (x := (z1, z2, a, b)) hz, if_pos rfl]
      unfold remaskQ
      rw [if_pos (rightG_iff.2 hP2), if_pos (by rw [hkv]; rfl), if_pos (hP.ov _ (kf_some hz).1).2.2.2, show vcV (setK us (z1, z2, a, b)) z1 = ((z1, z2, a, b), true) from vcV_some hkv]
      have := set_set hP.rv (x := (z1, z2, a, b)) hz
      rw [show setK (setK us (z1, z2, a, b)) (z1, z2, z3, z4) = us from this]
    · rw [if_neg hm] at h; simp at h
  · rw [if_neg hk] at h; simp at h

end Go.Proofs.Ytknimnopopnbhaa
