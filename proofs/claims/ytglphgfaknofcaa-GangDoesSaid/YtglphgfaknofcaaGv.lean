/-
  The landed gang: Part's and Leave's closures, DeleteFunc of numbers. No statement is proved here.
-/
import Derived.Test.YtglphgfaknofcaaGu
namespace Go.Proofs.Ytglphgfaknofcaa
open Go.RowKit Go.Maps

theorem gsM_erase (G : List Gn) (k : Nat) : gsM (G.eraseIdx k) = (gsM G).eraseIdx k := by
  unfold gsM
  rw [List.eraseIdx_eq_take_drop_succ, List.eraseIdx_eq_take_drop_succ, List.map_append, List.map_take, List.map_drop]
theorem gsM_set (G : List Gn) (k : Nat) (x : Gn) : gsM (G.set k x) = (gsM G).set k (gm x) := by
  unfold gsM
  rw [List.map_set]
theorem NO.del {w w' : World} {B n c n2 c2 k : Nat} {A A2 : Option Addr} {G : List Gn} (h : NO w B A n c G) (hg : w.grownBy w' (Value.slice A n c).ownBlock) (ho : w'.ownsRow B 36 2 (.slice A2 n2 c2) n2 (flat gnv (G.eraseIdx k)))
    (hw : ∀ j, (Value.slice A2 n2 c2).ownBlock = some j → (Value.slice A n c).ownBlock = some j ∨ w.heap.size ≤ j) : NO w' B A2 n2 c2 (G.eraseIdx k) :=
  ⟨ho, fun z hz => own_other (h.mem z (List.mem_of_mem_eraseIdx hz)) hg (h.ne z (List.mem_of_mem_eraseIdx hz)), fun z hz j j' hj hj' => by
    have hz := List.mem_of_mem_eraseIdx hz
    rcases hw j' hj' with e | e
    · exact h.ne z hz j j' hj e
    · have := ((h.mem z hz).lt j hj).2
      omega, h.apart.sublist (List.eraseIdx_sublist _ _)⟩
theorem below_grown {w w' : World} (h : Below w.heap.size w w') (r : Option Nat) : w.grownBy w' r := ⟨h.os, h.tape, h.output, h.size, fun k hk _ => h.block k hk⟩

set_option maxRecDepth 100000 in
set_option maxHeartbeats 8000000 in
theorem partdo_any (B n c : Nat) (A : Option Addr) (G : List Gn) (gp k : Nat) (w : World) (hN : NO w B A n c G) (hB : B ≤ w.heap.size) (h1 : Blk w gp 3 #[.int .i64 (k : Int)]) (hk : k < n) (hn : n ≤ 100) :
    Calls Try.prog 58 #[.slice A n c, .pointer (some ⟨gp, 0, none⟩)] w (fun e w' => ∃ A2 n2 c2 G2, e = .returned (.slice A2 n2 c2) ∧ NO w' B A2 n2 c2 G2 ∧ gsM G2 = (gsM G).eraseIdx k ∧ Below B w w') := by
  have HN := Lib.hid hN
  have HB := Lib.hid hB
  have k0 := h1.cell 0
  have HD := Lib.hid (gdelete_any B n c k A G w hN.row hN.len hk (by omega))
  have hW : IntKind.i64.wrap ((k : Int) + 1) = (k : Int) + 1 := by rw [IntKind.wrap_i64]; omega
  clear hN hB h1 hk
  go_enter Try.func58, Try.ntmps58
  go_wp2_with fail
  refine HD.out.mono ?_
  rintro e w5 ⟨⟨A5, c5, rfl, hO5, hw5⟩, hg5⟩
  have HNO := Lib.hid (HN.out.del hg5 hO5 hw5)
  have HBB := Lib.hid ((Below.refl B w).grown hg5 HB.out (fun j hj => (HN.out.row.lt j hj).1))
  clear hg5 hO5 hw5
  have HE := Lib.hid (gsM_erase G k)
  go_wp2
  go_ret
  exact ⟨_, _, _, _, rfl, HNO.out, HE.out, HBB.out⟩

end Go.Proofs.Ytglphgfaknofcaa
