/-
  The contract of the landed topo: Near. No statement is proved here.
-/
import Derived.Test.YtfalkiinlkfanaaLj
namespace Go.Proofs.Ytfalkiinlkfanaa
open Go.RowKit Go.Shelf

theorem add_inj (g : Nat) : ∀ i j, (⟨g, 0, none⟩ : Addr).add i = (⟨g, 0, none⟩ : Addr).add j → i = j := by
  have e : ∀ j, (⟨g, 0, none⟩ : Addr).add j = ⟨g, j, none⟩ := fun j => by unfold Addr.add; by_cases hj0 : j = 0 <;> simp [hj0]
  intro i j h
  rw [e, e] at h
  injection h
theorem own_row {w : World} {base n : Nat} {e : TypeId} {v : Value} {L : List Int} (h : w.ownsRow base e 1 v n (vs L)) (h0 : 0 < n) :
    ∃ g cap, v = .slice (some ⟨g, 0, none⟩) n cap ∧ base ≤ g ∧ n ≤ cap ∧ Row w ⟨g, 0, none⟩ n L := by
  obtain ⟨hl, h⟩ := h
  rcases h with ⟨_, h⟩ | ⟨g, cap, cur, rfl, hb, hg, hc, _, hs, ht⟩
  · omega
  · have K : Blk w g e cur := hg
    refine ⟨g, cap, rfl, hb, hc, K.lt, by rw [length_vs] at hl; omega, fun k x hx => ?_⟩
    have e' : (⟨g, 0, none⟩ : Addr).add k = ⟨g, k, none⟩ := by unfold Addr.add; by_cases hj0 : k = 0 <;> simp [hj0]
    rw [e']
    refine ⟨?_, K.frozen k⟩
    rw [K.cell k]
    have h1 : (vs L)[k]? = some (.int .i64 x) := by unfold vs; rw [List.getElem?_map, hx]; rfl
    rw [← ht, List.getElem?_take] at h1
    split at h1
    · rw [← h1]; simp
    · cases h1
theorem Row.reads {w : World} {ad : Addr} {n : Nat} {xs : List Int} (h : Row w ad n xs) : Reads w w.heap.size 1 (some ad) n (vs xs) :=
  ⟨by rw [length_vs, h.2.1, Nat.mul_one], fun _ => ⟨ad, rfl, h.1, fun j u hu => by
    obtain ⟨x, hx, rfl⟩ := vs_at hu
    exact (h.2.2 j x hx).1⟩⟩
theorem mem_told {P : Nat → Bool} {n : Nat} {x : Int} (h : x ∈ toldL P n) : ∃ k : Nat, x = (k : Int) ∧ k < n := by
  unfold toldL at h
  obtain ⟨k, hk, rfl⟩ := List.mem_map.1 h
  exact ⟨k, rfl, List.mem_range.1 (List.mem_filter.1 hk).1⟩

theorem near_sort (Bt Bc B : Nat) (A : Option Addr) (n c : Nat) (l : List (Int × Int)) (s : Int) (cpu : Nat) (v : Value) (w3 w : World)
    (K1 : Blk w3 Bt 27 #[.slice A n c]) (K2 : Blk w3 Bc 3 #[.int .i64 (cpu : Int)]) (hAt : At w3 A n c l) (hc : cpu < n) (h8 : n ≤ 8) (hBe : B = w3.heap.size) (hW : Below B w3 w)
    (ho : w.ownsRow B 3 1 v (toldL (fun (k : Nat) => hasB s (k : Int)) n).length (vs (toldL (fun (k : Nat) => hasB s (k : Int)) n))) :
    Calls Try.prog 53 #[v, .func (.func 54) #[] #[.pointer (some ⟨Bt, 0, none⟩), .pointer (some ⟨Bc, 0, none⟩)]] w fun e w' => e = .returned (.tuple #[]) ∧
      (∃ D m cap, v = .slice D m cap ∧ m = (nearL l s cpu).length ∧ m ≤ cap ∧ Reads w' w'.heap.size 1 D m (vs (nearL l s cpu))) ∧ Below B w3 w' := by
  subst hBe
  have hl := hAt.len
  have hm : (toldL (fun (k : Nat) => hasB s (k : Int)) n).length ≤ n := length_told _ n
  rcases Nat.eq_zero_or_pos (toldL (fun (k : Nat) => hasB s (k : Int)) n).length with h0 | h0
  · have hnil := List.length_eq_zero_iff.1 h0
    have hne : nearL l s cpu = [] := by
      have := near_rep (l := l) (s := s) (cpu := cpu) (T := []) (by rw [hl, hnil]; exact rep_nil _)
      exact this.symm
    obtain ⟨D, cap, rfl, hcap, _⟩ := own_reads ho
    rw [h0]
    refine sort_any D 0 cap _ _ w (fun w' => _ ∧ _) (by omega) ((insertion_none D cap _ w).mono fun e w' h => ⟨h.1, ?_, ?_⟩)
    · exact ⟨D, 0, cap, rfl, by rw [hne]; rfl, by omega, by rw [hne]; exact ⟨rfl, fun h => absurd h (by omega)⟩⟩
    · rw [← h.2]; exact hW
  · obtain ⟨g, cap, rfl, hg, hcap, hR⟩ := own_row ho h0
    have h9 : (toldL (fun (k : Nat) => hasB s (k : Int)) n).length ≤ 8 := by omega
    refine sort_any _ _ cap _ _ w (fun w' => _ ∧ _) h9 ((insertion_any Bt Bc w3.heap.size (fun x => distN l cpu x.toNat) (fun x => ∃ k : Nat, x = (k : Int) ∧ k < n) ⟨g, 0, none⟩ _ cap _ w3 w (add_inj g) hg hW ?_ (fun x hx => mem_told hx) hR h0 h9).mono fun e w' h => ⟨h.1, ?_, h.2.2⟩)
    · rintro x y ⟨a, rfl, ha⟩ ⟨b, rfl, hb⟩ u hu
      exact near2_any Bt Bc A n c l cpu a b u (K1.below hu K1.lt) (K2.below hu K2.lt) (hAt.below hu) hc ha hb
    · obtain ⟨T, hT, hRT⟩ := h.2.1
      have hTn : T = nearL l s cpu := near_rep (by rw [hl]; exact hT)
      subst hTn
      exact ⟨_, _, cap, rfl, hRT.2.1.symm, hcap, hRT.reads⟩

end Go.Proofs.Ytfalkiinlkfanaa
