/-
  The contracts of the statements' over, of the document's RightDomain, Right of masks, Domain, Vcpu. No statement is proved here.
-/
import Derived.Test.YtknimnopopnbhaaDa
namespace Go.Proofs.Ytknimnopopnbhaa
open Go.RowKit

set_option maxRecDepth 100000 in
set_option maxHeartbeats 1000000 in
theorem over_any (A : Option Addr) (n c : Nat) (B : Option Addr) (m d : Nat) (w : World) : Calls Try.prog 9 #[.agg #[.slice A n c, .slice B m d]] w (Said (.bool (decide (100 < n) || decide (100 < m))) w) := by
  have HK := Lib.hid (box1 w 25 #[.slice A n c, .slice B m d])
  by_cases h1 : 100 < n
  · have HV : Hid ((decide (100 < n) || decide (100 < m)) = true) := Lib.hid (by simp [h1])
    have e1 : decide ((100 : Int) < (n : Int)) = true := decide_eq_true (by omega)
    clear h1
    go_enter Try.func9, Try.ntmps9
    go_wp2
    go_ret
    exact ⟨retB HV.out.symm, HK.out.2⟩
  · have e1 : decide ((100 : Int) < (n : Int)) = false := decide_eq_false (by omega)
    by_cases h2 : 100 < m
    · have HV : Hid ((decide (100 < n) || decide (100 < m)) = true) := Lib.hid (by simp [h2])
      have e2 : decide ((100 : Int) < (m : Int)) = true := decide_eq_true (by omega)
      clear h1 h2
      go_enter Try.func9, Try.ntmps9
      go_wp2
      go_ret
      exact ⟨retB HV.out.symm, HK.out.2⟩
    · have HV : Hid ((decide (100 < n) || decide (100 < m)) = false) := Lib.hid (by simp [h1, h2])
      have e2 : decide ((100 : Int) < (m : Int)) = false := decide_eq_false (by omega)
      clear h1 h2
      go_enter Try.func9, Try.ntmps9
      go_wp2
      go_ret
      exact ⟨retB HV.out.symm, HK.out.2⟩

set_option maxRecDepth 100000 in
set_option maxHeartbeats 4000000 in
theorem rrightD_any (a b c d : Int) (w : World) : Calls Try.prog 16 #[.agg #[.int .i64 a, .int .i64 b, .int .i64 c, .int .i64 d]] w (Said (.bool (rightD (a, b, c, d))) w) := by
  have HK := Lib.hid (box1 w 27 #[.int .i64 a, .int .i64 b, .int .i64 c, .int .i64 d])
  by_cases h0 : 1 ≤ a
  · have e0 : decide ((1 : Int) ≤ a) = true := decide_eq_true h0
    by_cases h1 : a ≤ 8
    · have e1 : decide (a ≤ (8 : Int)) = true := decide_eq_true h1
      by_cases h2 : 1 ≤ b
      · have e2 : decide ((1 : Int) ≤ b) = true := decide_eq_true h2
        by_cases h3 : b ≤ 65535
        · have e3 : decide (b ≤ (65535 : Int)) = true := decide_eq_true h3
          by_cases h4 : 0 ≤ c
          · have e4 : decide ((0 : Int) ≤ c) = true := decide_eq_true h4
            by_cases h5 : c ≤ 800
            · have e5 : decide (c ≤ (800 : Int)) = true := decide_eq_true h5
              by_cases h6 : 0 ≤ d
              · have e6 : decide ((0 : Int) ≤ d) = true := decide_eq_true h6
                by_cases h7 : d ≤ 3
                · have e7 : decide (d ≤ (3 : Int)) = true := decide_eq_true h7
                  have HV : Hid (rightD (a, b, c, d) = true) := Lib.hid (by unfold rightD; simp [h0, h1, h2, h3, h4, h5, h6, h7])
                  clear h0 h1 h2 h3 h4 h5 h6 h7
                  go_enter Try.func16, Try.ntmps16
                  go_wp2
                  go_ret
                  exact ⟨retB HV.out.symm, HK.out.2⟩
                · have e7 : decide (d ≤ (3 : Int)) = false := decide_eq_false h7
                  have HV : Hid (rightD (a, b, c, d) = false) := Lib.hid (by unfold rightD; simp [h7])
                  clear h0 h1 h2 h3 h4 h5 h6 h7
                  go_enter Try.func16, Try.ntmps16
                  go_wp2
                  go_ret
                  exact ⟨retB HV.out.symm, HK.out.2⟩
              · have e6 : decide ((0 : Int) ≤ d) = false := decide_eq_false h6
                have HV : Hid (rightD (a, b, c, d) = false) := Lib.hid (by unfold rightD; simp [h6])
                clear h0 h1 h2 h3 h4 h5 h6
                go_enter Try.func16, Try.ntmps16
                go_wp2
                go_ret
                exact ⟨retB HV.out.symm, HK.out.2⟩
            · have e5 : decide (c ≤ (800 : Int)) = false := decide_eq_false h5
              have HV : Hid (rightD (a, b, c, d) = false) := Lib.hid (by unfold rightD; simp [h5])
              clear h0 h1 h2 h3 h4 h5
              go_enter Try.func16, Try.ntmps16
              go_wp2
              go_ret
              exact ⟨retB HV.out.symm, HK.out.2⟩
          · have e4 : decide ((0 : Int) ≤ c) = false := decide_eq_false h4
            have HV : Hid (rightD (a, b, c, d) = false) := Lib.hid (by unfold rightD; simp [h4])
            clear h0 h1 h2 h3 h4
            go_enter Try.func16, Try.ntmps16
            go_wp2
            go_ret
            exact ⟨retB HV.out.symm, HK.out.2⟩
        · have e3 : decide (b ≤ (65535 : Int)) = false := decide_eq_false h3
          have HV : Hid (rightD (a, b, c, d) = false) := Lib.hid (by unfold rightD; simp [h3])
          clear h0 h1 h2 h3
          go_enter Try.func16, Try.ntmps16
          go_wp2
          go_ret
          exact ⟨retB HV.out.symm, HK.out.2⟩
      · have e2 : decide ((1 : Int) ≤ b) = false := decide_eq_false h2
        have HV : Hid (rightD (a, b, c, d) = false) := Lib.hid (by unfold rightD; simp [h2])
        clear h0 h1 h2
        go_enter Try.func16, Try.ntmps16
        go_wp2
        go_ret
        exact ⟨retB HV.out.symm, HK.out.2⟩
    · have e1 : decide (a ≤ (8 : Int)) = false := decide_eq_false h1
      have HV : Hid (rightD (a, b, c, d) = false) := Lib.hid (by unfold rightD; simp [h1])
      clear h0 h1
      go_enter Try.func16, Try.ntmps16
      go_wp2
      go_ret
      exact ⟨retB HV.out.symm, HK.out.2⟩
  · have e0 : decide ((1 : Int) ≤ a) = false := decide_eq_false h0
    have HV : Hid (rightD (a, b, c, d) = false) := Lib.hid (by unfold rightD; simp [h0])
    clear h0
    go_enter Try.func16, Try.ntmps16
    go_wp2
    go_ret
    exact ⟨retB HV.out.symm, HK.out.2⟩

set_option maxRecDepth 100000 in
set_option maxHeartbeats 1000000 in
theorem rrightM_any (h s : Nat) (w : World) : Calls Try.prog 25 #[.agg #[.int .u32 (h : Int), .int .u32 (s : Int)]] w (Said (.bool (rightK h s)) w) := by
  have HK := Lib.hid (box1 w 48 #[.int .u32 (h : Int), .int .u32 (s : Int)])
  have HR := Lib.hid (fun (x : Nat) u => rright_any (x : Int) u)
  by_cases h1 : h < 256
  · have e1 : decide ((h : Int) < 256) = true := decide_eq_true (by omega)
    have HR1 := Lib.hid (e1 ▸ HR.out h)
    by_cases h2 : s < 256
    · have e2 : decide ((s : Int) < 256) = true := decide_eq_true (by omega)
      have HR2 := Lib.hid (e2 ▸ HR.out s)
      by_cases h3 : 0 < h
      · have HV : Hid (rightK h s = true) := Lib.hid (by unfold rightK; simp [h1, h2, h3])
        have e3 : decide ((0 : Int) < (h : Int)) = true := decide_eq_true (by omega)
        clear h1 h2 e1 e2 HR
        go_enter Try.func25, Try.ntmps25
        go_wp2_with fail
        refine (HR1.out _).mono ?_
        rintro e w1 ⟨rfl, rfl⟩
        go_wp2_with fail
        refine (HR2.out _).mono ?_
        rintro e w1 ⟨rfl, rfl⟩
        go_wp2
        go_ret
        exact ⟨retB HV.out.symm, HK.out.2⟩
      · have HV : Hid (rightK h s = false) := Lib.hid (by unfold rightK; simp [h3])
        have e3 : decide ((0 : Int) < (h : Int)) = false := decide_eq_false (by omega)
        clear h1 h2 e1 e2 HR
        go_enter Try.func25, Try.ntmps25
        go_wp2_with fail
        refine (HR1.out _).mono ?_
        rintro e w1 ⟨rfl, rfl⟩
        go_wp2_with fail
        refine (HR2.out _).mono ?_
        rintro e w1 ⟨rfl, rfl⟩
        go_wp2
        go_ret
        exact ⟨retB HV.out.symm, HK.out.2⟩
    · have e2 : decide ((s : Int) < 256) = false := decide_eq_false (by omega)
      have HR2 := Lib.hid (e2 ▸ HR.out s)
      have HV : Hid (rightK h s = false) := Lib.hid (by unfold rightK; simp [h2])
      clear h1 h2 e1 e2 HR
      go_enter Try.func25, Try.ntmps25
      go_wp2_with fail
      refine (HR1.out _).mono ?_
      rintro e w1 ⟨rfl, rfl⟩
      go_wp2_with fail
      refine (HR2.out _).mono ?_
      rintro e w1 ⟨rfl, rfl⟩
      go_wp2
      go_ret
      exact ⟨retB HV.out.symm, HK.out.2⟩
  · have e1 : decide ((h : Int) < 256) = false := decide_eq_false (by omega)
    have HR1 := Lib.hid (e1 ▸ HR.out h)
    have HV : Hid (rightK h s = false) := Lib.hid (by unfold rightK; simp [h1])
    clear h1 e1 HR
    go_enter Try.func25, Try.ntmps25
    go_wp2_with fail
    refine (HR1.out _).mono ?_
    rintro e w1 ⟨rfl, rfl⟩
    go_wp2
    go_ret
    exact ⟨retB HV.out.symm, HK.out.2⟩

end Go.Proofs.Ytknimnopopnbhaa
