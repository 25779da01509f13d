/-
  append of noughts (a make that append takes in) onto a row of bytes that the call owns; and what octet's statements make of it. No statement is proved here.
-/
import Derived.Test.YtifclmmfnfppiaaOctPut
import Derived.Lib.AppendZerosOnto
namespace Go.Proofs.Ytifclmmfnfppiaa
open Go.RowKit

theorem zero_cells (k : Nat) : (Builtin.zeroCells #[Value.int .u8 0] k).toList = List.replicate k (Value.int .u8 0) := by
  apply List.ext_getElem?
  intro j
  by_cases hj : j < k
  · simp [Builtin.zeroCells, hj, Nat.mod_one]
  · simp [Builtin.zeroCells, hj]

theorem append_room_zeros (w : World) (ty g n cap k : Nat) (cur : Array Value) (hg : w.heap[g]? = some (.cells cur 5 (0, 0))) (hk : 0 < k) (hk2 : k ≤ 100000) (hroom : n + k ≤ cap) (hfit : n + k ≤ cur.size) :
    (Builtin.append_ #[22, 3] ty #[.slice (some ⟨g, 0, none⟩) n cap, .int .i64 k]).run Try.prog w =
      .ok (.slice (some ⟨g, 0, none⟩) (n + k) cap) (w.setRow g (cur.toList.take n ++ List.replicate k (Value.int .u8 0) ++ cur.toList.drop (n + k)).toArray) := by
  obtain ⟨i0, hi0, hz0, hz1, hz2⟩ := info_parts byte_info
  have hst := run_storeCells_at Try.prog g n 5 (List.replicate k (Value.int .u8 0)) 0 cur w hg (by simpa using hfit) (by intro v hv; rw [List.eq_of_mem_replicate hv]; rfl)
  simp only [Nat.add_zero, List.length_replicate] at hst
  have hw : IntKind.i64.wrap (k : Int) = k := by rw [IntKind.wrap_i64]; omega
  have hneg : ¬ ((k : Int) < 0) := by omega
  have h48 : ¬ (281474976710656 < (k : Int)) := by omega
  have hns : ¬ k = 0 := by omega
  have hzc := zero_cells k
  simp [Builtin.append_, run_underlying Try.underlying22, run_underlying Try.underlying3, sizeOf, typeInfo, zeroValue, hi0, hz0, hz1, hz2, asInt, asIntOf, hw, hroom, hneg, hns, h48, Addr.add_lit, hzc, hst, Value.cells]

theorem append_zeros (w : World) (ty base n k : Nat) (v : Value) (xs : List Value) (hown : w.ownsRow base 5 1 v n xs) (hk : 0 < k) (hk2 : k ≤ 100000) (hn : n ≤ 100000) (hbase : base ≤ w.heap.size) :
    ∃ v' w', (Builtin.append_ #[22, 3] ty #[v, .int .i64 k]).run Try.prog w = .ok v' w' ∧ w'.ownsRow base 5 1 v' (n + k) (xs ++ List.replicate k (Value.int .u8 0)) ∧ w.grownBy w' v.ownBlock := by
  obtain ⟨i0, hi0, hz0, hz1, hz2⟩ := info_parts byte_info
  have hlen : xs.length = n := by have := hown.1; simpa using this
  have grow : ∀ (A : Option Addr) (cap : Nat), cap < n + k → n ≤ cap → (Builtin.firstCells i0.size n (.slice A n cap)).run Try.prog w.drew = .ok xs.toArray w.drew →
      ∃ v' w', (Builtin.append_ #[22, 3] ty #[.slice A n cap, .int .i64 k]).run Try.prog w = .ok v' w' ∧ w'.ownsRow base 5 1 v' (n + k) (xs ++ List.replicate k (Value.int .u8 0)) ∧ w.grownBy w' (Value.slice A n cap).ownBlock := fun A cap hlt _ hold => by
    have h := Lib.run_append_grow_zeros (P := Try.prog) w 22 3 ty 5 i0 (.int .u8 0) .i64 .i64 Try.underlying22 Try.underlying3 hi0 hz0 A n cap xs hold k hk (by omega) hlt (by omega) (by rw [hz2]; omega)
      (growslice_fits hlt (by rw [hz2]; omega))
    have hge := grownCap_ge w (n + k) cap 5
    have hcm := grownCap_le_maxLen w (n + k) cap 5 (by unfold maxLen; omega)
    refine ⟨_, _, h, ⟨by simp [hlen], .inr ⟨w.heap.size, _, _, rfl, hbase, heap_alloc_new w.drew _, hge, hcm, ?_, ?_⟩⟩, ⟨rfl, rfl, rfl, by simp, fun j hj _ => heap_alloc_old w.drew _ hj⟩⟩
    · simp [size_zeroCells, Value.cells, hlen]; omega
    · have e : (Value.int .u8 0).cells = #[Value.int .u8 0] := rfl
      rw [e]
      simp only [Array.toList_append, zero_cells, Nat.mul_one]
      have e2 : n + k = (xs ++ List.replicate k (Value.int .u8 0)).length := by simp [hlen]
      rw [e2]
      exact List.take_left
  rcases hown.2 with ⟨rfl, rfl⟩ | ⟨g, cap, cur, rfl, hbg, hg, hnc, hcm, hcs, htake⟩
  · obtain rfl : xs = [] := List.eq_nil_of_length_eq_zero hlen
    exact grow none 0 (by omega) (by omega) (run_firstCells_none w.drew i0.size 0 0 0)
  · rw [Nat.mul_one] at hcs htake
    by_cases hroom : n + k ≤ cap
    · have hr := append_room_zeros w ty g n cap k cur hg hk hk2 hroom (by omega)
      refine ⟨_, _, hr, ⟨by simp [hlen], .inr ⟨g, cap, _, rfl, hbg, setRow_heap w g cur _ _ _ hg, hroom, hcm, ?_, ?_⟩⟩, ⟨rfl, rfl, rfl, by simp, fun j _ hj => setRow_other w g j _ (fun e => hj (by simp [Value.ownBlock, e]))⟩⟩
      · simp only [List.size_toArray, List.length_append, List.length_take, List.length_drop, Array.length_toList, List.length_replicate]
        omega
      · rw [htake, Nat.mul_one]
        have e2 : n + k = (xs ++ List.replicate k (Value.int .u8 0)).length := by simp [hlen]
        rw [e2]
        exact List.take_left
    · have holds : ∀ j u, xs[j]? = some u → w.drew.cell? ((⟨g, 0, none⟩ : Addr).add j) = some u := hown.cells (g := g) rfl
      exact grow (some ⟨g, 0, none⟩) cap (by omega) hnc (run_firstCells_some w.drew i0.size n ⟨g, 0, none⟩ n cap xs (by rw [hz1]; omega) holds)

end Go.Proofs.Ytifclmmfnfppiaa
