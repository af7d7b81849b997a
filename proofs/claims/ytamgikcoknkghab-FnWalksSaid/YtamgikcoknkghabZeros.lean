/-
  append(b, make([]byte, k)...) onto a row of the call's own, in the words of Mem: the row, and k zeros behind it. Lengths to 2 to the 30.
-/
import Derived.Test.YtamgikcoknkghabLaws
import Derived.Lib.AppendZerosOnto
import Derived.Lib.Hide
namespace Go.Proofs.Ytamgikcoknkghab.Mem
open Go.RowKit
set_option linter.unusedVariables false

theorem run_append_zeros_b {P : Program} {w : World} {lo hi : Nat} {vr : Value} {L : List Int} (T Tn ty : TypeId) (kn kq : IntKind)
    (hu : P.underlying T = some (.slice 5)) (hn : P.underlying Tn = some (.int kn)) (hinfo : (P.info? 5).map (fun i => (i.zero, i.size, i.bytes)) = some (some (.int .u8 0), 1, 1))
    (hown : Own w lo hi vr L) (k : Nat) (hlen : L.length + k ≤ 1073741824) (hlo : lo ≤ w.heap.size) :
    ∃ v' w', (Builtin.append_ #[T, Tn] ty #[vr, .int kq k]).run P w = .ok v' w' ∧ Own w' lo w'.heap.size v' (L ++ List.replicate k 0) ∧ OnlyIn lo hi w w' := by
  obtain ⟨i0, hi0, hz0, hz1, hz2⟩ := info_parts hinfo
  have hw : IntKind.i64.wrap (k : Int) = k := by rw [IntKind.wrap_i64]; omega
  have hneg : ¬ ((k : Int) < 0) := by omega
  have h48 : ¬ (281474976710656 < (k : Int)) := by omega
  have hz : (Builtin.zeroCells (Value.int .u8 0).cells k).toList = (List.replicate k (0 : Int)).map (Value.int .u8) := by
    rw [show (Value.int .u8 0).cells = #[.int .u8 0] from rfl]
    simp [Builtin.zeroCells]
    apply List.ext_getElem
    · simp
    · intro i h1 h2
      simp [Nat.mod_one]
  by_cases h0 : k = 0
  · subst h0
    rw [List.replicate_zero, List.append_nil]
    have hw0 : IntKind.i64.wrap 0 = 0 := by rw [IntKind.wrap_i64]; omega
    rcases hown with ⟨rfl, rfl⟩ | ⟨g, cap, cur, rfl, h1, h2, h3, h4, h5, h6, h7⟩
    · refine ⟨_, w, ?_, .inl ⟨rfl, rfl⟩, OnlyIn.refl _ _ _⟩
      simp [Builtin.append_, run_underlying hu, run_underlying hn, sizeOf, typeInfo, hi0, asInt, asIntOf, hz2, hw0]
    · refine ⟨_, w, ?_, .inr ⟨g, cap, cur, rfl, h1, (Array.getElem?_eq_some_iff.1 h3).1, h3, h4, h5, h6, h7⟩, OnlyIn.refl _ _ _⟩
      simp [Builtin.append_, run_underlying hu, run_underlying hn, sizeOf, typeInfo, hi0, asInt, asIntOf, hz2, hw0, h4, storeCells]
  · have grow : ∀ (A : Option Addr) (cap : Nat), cap < L.length + k → (Builtin.firstCells i0.size L.length (.slice A L.length cap)).run P w.drew = .ok (L.map (Value.int .u8)).toArray w.drew →
        ∃ v' w', (Builtin.append_ #[T, Tn] ty #[.slice A L.length cap, .int kq k]).run P w = .ok v' w' ∧ Own w' lo w'.heap.size v' (L ++ List.replicate k 0) ∧ OnlyIn lo hi w w' := by
      intro A cap hcap hold
      have hfit := nextslicecap_le (need := L.length + k) (old := cap) hcap
      have hr := Lib.run_append_grow_zeros (P := P) w T Tn ty 5 i0 (.int .u8 0) kq kn hu hn hi0 hz0 A L.length cap (L.map (Value.int .u8)) hold k (by omega) (by omega) hcap (by omega) (by rw [hz2]; omega) (by rw [hz2]; omega)
      refine ⟨_, _, hr, .inr ⟨w.heap.size, grownCap w (L.length + k) cap 5, _, by simp, hlo, by simp, heap_alloc_new w.drew _, ?_, grownCap_le_maxLen w _ _ _ (by unfold maxLen; omega), ?_, ?_⟩, ⟨rfl, rfl, rfl, by simp, fun j hj _ => Below.heap_alloc w.drew _ j hj⟩⟩
      · rw [List.length_append, List.length_replicate]
        exact grownCap_ge w _ _ _
      · have h1 := grownCap_ge w (L.length + k) cap 5
        simp [size_zeroCells, Value.cells]
        omega
      · simp only [Array.toList_append, hz, List.append_assoc]
        rw [List.map_append, ← List.append_assoc, List.length_append, List.length_replicate]
        refine List.take_left' ?_
        simp
    rcases hown with ⟨rfl, rfl⟩ | ⟨g, cap, cur, rfl, h1, h2, h3, h4, h5, h6, h7⟩
    · refine grow none 0 (by simp; omega) ?_
      rw [List.length_nil, run_firstCells_none]
      rfl
    · by_cases hroom : L.length + k ≤ cap
      · have hst := run_storeCells_at P g L.length 5 ((List.replicate k (0 : Int)).map (Value.int .u8)) 0 cur w h3 (by simp; omega) (oneCell_u8 _)
        simp only [Nat.add_zero, List.append_assoc] at hst
        refine ⟨.slice (some ⟨g, 0, none⟩) (L.length + k) cap, w.setRow g (cur.toList.take L.length ++ (List.replicate k (Value.int .u8 0) ++ cur.toList.drop (L.length + k))).toArray, ?_, .inr ⟨g, cap, _, by simp, h1, ?_, setRow_heap w g cur _ _ _ h3, by simp; omega, h5, ?_, ?_⟩, ⟨rfl, rfl, rfl, by simp, fun j hj hn' => setRow_other w g j _ (by omega)⟩⟩
        · have hadd : (⟨g, 0, none⟩ : Addr).add L.length = ⟨g, L.length, none⟩ := by rw [Addr.add_lit, Nat.zero_add]
          simp [Builtin.append_, run_underlying hu, run_underlying hn, sizeOf, typeInfo, hi0, asInt, asIntOf, hz0, hz1, hz2, hw, hneg, h48, h0, hroom, zeroValue, hz, hadd]
          simp at hst
          rw [hst]
          rfl
        · have := (Array.getElem?_eq_some_iff.1 h3).1
          simpa using this
        · simp [h6]
          omega
        · rw [List.length_append, List.length_replicate, List.toList_toArray, h7, List.map_append, List.map_replicate, ← List.append_assoc]
          refine List.take_left' ?_
          simp
      · refine grow _ cap (by omega) ?_
        refine run_firstCells_some (P := P) w.drew i0.size L.length ⟨g, 0, none⟩ L.length cap (L.map (Value.int .u8)) (by rw [hz1]; simp) (fun j u hu' => ?_)
        rw [Addr.add_lit, Nat.zero_add]
        have hj : j < L.length := by have := (List.getElem?_eq_some_iff.1 hu').1; simpa using this
        show w.cell? ⟨g, j, none⟩ = some u
        rw [cell_of_row w g j cur 5 (0, 0) h3, getD_map_u8 h7 hj]
        rw [List.getElem?_map, List.getElem?_eq_getElem hj] at hu'
        injection hu' with hu'
        rw [← hu', List.getD_eq_getElem?_getD, List.getElem?_eq_getElem hj]
        rfl

theorem wpList_append_zeros_b {P : Program} {w : World} {ops : Array Oper} {rest : List Oper} {o : Oper} {a : Act} {Q : Exit → Act → World → Prop} {lo hi : Nat} {vr : Value} {L : List Int} (hgd : o.guard = none) (s x : Operand) (T Tn : TypeId)
    (ho : o.op = .call { callee := .builtin .append, args := #[s, x], argTypes := #[T, Tn] }) (kn kq : IntKind)
    (hu : P.underlying T = some (.slice 5)) (hn : P.underlying Tn = some (.int kn)) (hinfo : (P.info? 5).map (fun i => (i.zero, i.size, i.bytes)) = some (some (.int .u8 0), 1, 1))
    (hown : Own w lo hi vr L) (k : Nat) (hlen : L.length + k ≤ 1073741824) (hlo : lo ≤ w.heap.size) (hs : a.eval s = vr) (hx : a.eval x = .int kq k)
    (h : ∀ v' w', Own w' lo w'.heap.size v' (L ++ List.replicate k 0) → OnlyIn lo hi w w' → wpList P ops Q rest (a.put o.dst v') w') : wpList P ops Q (o :: rest) a w := by
  obtain ⟨v', w', hr, q1, q2⟩ := run_append_zeros_b (P := P) T Tn o.type kn kq hu hn hinfo hown k hlen hlo
  exact Lib.wpList_append_run w hgd s x T Tn ho vr (.int kq k) hs hx v' w' hr (h v' w' q1 q2)
end Go.Proofs.Ytamgikcoknkghab.Mem
