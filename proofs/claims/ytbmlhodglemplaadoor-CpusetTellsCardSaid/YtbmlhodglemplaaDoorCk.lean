/-
  The contract of the landed Parse: the set whose text it is. No statement is proved here.
-/
import Derived.Test.YtbmlhodglemplaaDoorCj
namespace Go.Proofs.YtbmlhodglemplaaDoor
open Go.RowKit

def noneL : List UInt8 := [110, 111, 110, 101]
theorem text_eq {T : ByteArray} {s : Nat} : (textB (s : Int)).toList = T.toList ↔ textB (s : Int) = T := by
  constructor
  · intro h
    rw [Lib.toList_data, Lib.toList_data] at h
    rw [← bytes_back (textB (s : Int)), h, bytes_back]
  · rintro rfl; rfl

def backB (s : Nat) : Bool := s == 0 || readV ((textB (s : Int)).size + 1) (textB (s : Int)).data.toList 0 == some s
theorem back_all : (List.range 256).all backB = true := by kernel_rfl
theorem back_facts {s : Nat} (h0 : 0 < s) (h : s < 256) : readV ((textB (s : Int)).size + 1) (textB (s : Int)).data.toList 0 = some s := by
  have := of_all 256 back_all h
  unfold backB at this
  simp at this
  rcases this with h1 | h1
  · omega
  · exact h1
theorem text_zero_eq : textB 0 = ⟨#[110, 111, 110, 101]⟩ := by decide +kernel
theorem not_none {s : Nat} (h0 : 0 < s) (h : s < 256) : ¬ (textB (s : Int)).toList = noneL := by
  intro he
  have := text_inj (s := s) (t := 0) h (by omega) (by
    rw [he]
    show noneL = (textB 0).toList
    rw [text_zero_eq, Lib.toList_data]
    rfl)
  omega

/-- what Parse answers -/
def parE (T : ByteArray) : Int × Int := match parV T with
  | some s => ((s : Int), 0)
  | none => (0, 2)
theorem parE_some {T : ByteArray} {s : Nat} (h : parV T = some s) : parE T = ((s : Int), 0) := by unfold parE; rw [h]
theorem parE_none {T : ByteArray} (h : parV T = none) : parE T = (0, 2) := by unfold parE; rw [h]
theorem parE_empty {T : ByteArray} (h : T.toList = noneL) : parE T = (0, 0) := by
  have : parV T = some 0 := par_some (by omega) (by
    show (textB 0).toList = T.toList
    rw [h, text_zero_eq, Lib.toList_data]
    rfl)
  rw [parE_some this]
  rfl
theorem parE_hit {T : ByteArray} {s : Nat} (h : s < 256) (he : textB (s : Int) = T) : parE T = ((s : Int), 0) := parE_some (par_some h (text_eq.2 he))
/-- a text that is not read to the set whose text it is, is none's -/
theorem par_no {T : ByteArray} (hT : ¬ T.toList = noneL) (h : ∀ s, readV (T.size + 1) T.data.toList 0 = some s → ¬ textB (s : Int) = T) : parV T = none := by
  cases hp : parV T with
  | none => rfl
  | some s =>
    obtain ⟨h1, _, h3⟩ := par_sound hp
    have he := text_eq.1 h1
    have hs : 0 < s := by
      rcases Nat.eq_zero_or_pos s with h0 | h0
      · subst h0
        refine absurd ?_ hT
        rw [← he]
        show (textB 0).toList = noneL
        rw [text_zero_eq, Lib.toList_data]
        rfl
      · exact h0
    have := back_facts hs (by omega)
    rw [he] at this
    exact absurd he (h s this)

set_option maxRecDepth 100000 in
set_option maxHeartbeats 2000000 in
theorem parse_any (T : ByteArray) (w : World) (hs : T.size ≤ 1000) (hG : Gd w) : Calls Tryd.prog 32 #[.string T] w (Ans (.tuple #[.int .u32 (parE T).1, .int .i64 (parE T).2]) w) := by
  by_cases hn : T.toList = noneL
  · rw [parE_empty hn]
    have hn2 : T.toList = [110, 111, 110, 101] := hn
    clear hn hG hs
    go_enter Tryd.func32, Tryd.ntmps32
    go_wp2
    go_ret2
    exact ⟨rfl, Below.refl _ _⟩
  · have hn2 : (T.toList == [110, 111, 110, 101]) = false := by
      simp only [beq_eq_false_iff_ne, ne_eq]
      exact hn
    have HG := Lib.hid hG
    have HR := Lib.hid (read_any T w hs hG)
    cases hr : readV (T.size + 1) T.data.toList 0 with
    | none =>
      have HV := Lib.hid (parE_none (par_no hn (fun s h => by rw [hr] at h; cases h)))
      have HT := Lib.hid (fun u hu => text_any 0 u hu (by omega) (by omega))
      rw [hr] at HR
      rw [HV.out]
      generalize (textE 0).1 = X at *
      generalize (textE 0).2 = Y at *
      clear hr hn hs hG
      go_enter Tryd.func32, Tryd.ntmps32
      go_wp2_with fail
      refine HR.out.mono ?_
      rintro e w1 ⟨-, hx, hB1⟩
      obtain rfl := hx rfl
      have hG1 := HG.out.below hB1
      clear hx
      go_wp2_with fail
      refine (HT.out _ hG1.1).mono ?_
      rintro e w2 ⟨rfl, hB2⟩
      have hB := hB1.trans (hB2.mono hB1.size)
      clear hB1 hB2
      go_wp2
      go_ret2
      exact ⟨rfl, hB⟩
    | some s =>
      have hs8 := read_lt (by omega) hr
      have HT := Lib.hid (fun u hu => text_any (s : Int) u hu (by omega) (by omega))
      rw [show textE (s : Int) = (textB (s : Int), 0) from if_pos (by omega)] at HT
      rw [hr] at HR
      by_cases he : textB (s : Int) = T
      · rw [parE_hit hs8 he]
        have he2 : (textB (s : Int)).toList = T.toList := by rw [he]
        generalize textB (s : Int) = X at *
        clear hr hn hs hG he hs8
        go_enter Tryd.func32, Tryd.ntmps32
        go_wp2_with fail
        refine HR.out.mono ?_
        rintro e w1 ⟨hx, -, hB1⟩
        obtain rfl := hx s rfl
        have hG1 := HG.out.below hB1
        clear hx
        go_wp2_with fail
        refine (HT.out _ hG1.1).mono ?_
        rintro e w2 ⟨rfl, hB2⟩
        have hB := hB1.trans (hB2.mono hB1.size)
        clear hB1 hB2
        go_wp2
        go_ret2
        exact ⟨rfl, hB⟩
      · rw [parE_none (par_no hn (fun t h => by rw [hr] at h; injection h with h; subst h; exact he))]
        have he2 : ((textB (s : Int)).toList == T.toList) = false := by
          simp only [beq_eq_false_iff_ne, ne_eq]
          exact fun h => he (text_eq.1 h)
        generalize textB (s : Int) = X at *
        clear hr hn hs hG he hs8
        go_enter Tryd.func32, Tryd.ntmps32
        go_wp2_with fail
        refine HR.out.mono ?_
        rintro e w1 ⟨hx, -, hB1⟩
        obtain rfl := hx s rfl
        have hG1 := HG.out.below hB1
        clear hx
        go_wp2_with fail
        refine (HT.out _ hG1.1).mono ?_
        rintro e w2 ⟨rfl, hB2⟩
        have hB := hB1.trans (hB2.mono hB1.size)
        clear hB1 hB2
        go_wp2
        go_ret2
        exact ⟨rfl, hB⟩

end Go.Proofs.YtbmlhodglemplaaDoor
