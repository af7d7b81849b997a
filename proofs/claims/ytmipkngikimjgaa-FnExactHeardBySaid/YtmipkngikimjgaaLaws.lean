/-
  Laws for the walk on byte slices: append, copy and clear in the words of Mem. Lengths to 2 to the 30.
-/
import Derived.Test.YtmipkngikimjgaaMem
namespace Go.Proofs.Ytmipkngikimjgaa.Mem
open Go.RowKit
set_option linter.unusedVariables false

/-- d is the part of the slice src from a on, n long (its address is asked only where n is above 0). -/
def PartIn (src d : Value) (a n : Nat) : Prop :=
  ∃ A m c A' c', src = .slice A m c ∧ d = .slice A' n c' ∧ n ≤ c' ∧ c' ≤ maxLen ∧ (0 < n → A' = A.map (·.add a))

theorem part_sliced (A : Option Addr) (m c a n mx : Nat) (h1 : a + n ≤ mx) (h2 : mx ≤ maxLen) : PartIn (.slice A m c) (sliced A a (a + n) mx 1) a n := by
  refine ⟨A, m, c, if mx = a then A else A.map (·.add (a * 1)), mx - a, rfl, ?_, by omega, by omega, fun hn => ?_⟩
  · simp only [sliced]
    rw [show a + n - a = n by omega]
  · rw [if_neg (by omega), Nat.mul_one]

section
variable {w w' : World} {lo hi lo' hi' : Nat} {v d : Value} {L M : List Int}
theorem Rd.part {a n : Nat} (h : Rd w lo hi v L) (hp : PartIn v d a n) (hl : a + n ≤ L.length) : Rd w lo hi d ((L.drop a).take n) := by
  obtain ⟨A, m, c, A', c', rfl, rfl, h1, h2, h3⟩ := hp
  have hlen : ((L.drop a).take n).length = n := by rw [List.length_take, List.length_drop]; omega
  refine ⟨A', c', by rw [hlen], by omega, h2, fun k hk => ?_⟩
  rw [hlen] at hk
  obtain ⟨b, o, hA, q1, q2, q3⟩ := h.spot (k := a + k) (by omega)
  refine ⟨b, o + a, ?_, q1, q2, World.block_lt_of_cell? w _ q3, ?_⟩
  · rw [h3 (by omega), hA]
    simp [Addr.add_lit]
  · rw [show o + a + k = o + (a + k) by omega, q3]
    congr 2
    rw [List.getD_eq_getElem?_getD, List.getD_eq_getElem?_getD, List.getElem?_take, if_pos hk, List.getElem?_drop]

theorem take_laid {α : Type} (X : List α) (off : Nat) (cs : List α) (n : Nat) (h : off + cs.length ≤ n) : (X.take off ++ (cs ++ X.drop (off + cs.length))).take n = splice (X.take n) off cs := by
  unfold splice
  rw [List.take_append, List.take_append, List.take_take, List.take_take, List.drop_take]
  by_cases hx : off ≤ X.length
  · rw [List.length_take, show min off X.length = off by omega, show min n off = off by omega, show min off n = off by omega, List.take_of_length_le (show cs.length ≤ n - off by omega),
      show n - off - cs.length = n - (off + cs.length) by omega]
  · rw [List.length_take, show min off X.length = X.length by omega, show min n off = off by omega, show min off n = off by omega, List.take_of_length_le (show cs.length ≤ n - X.length by omega),
      List.drop_eq_nil_of_le (show X.length ≤ off + cs.length by omega), List.take_nil, List.take_nil]

theorem splice_map {α β : Type} (f : α → β) (X : List α) (off : Nat) (cs : List α) : (splice X off cs).map f = splice (X.map f) off (cs.map f) := by
  simp [splice]
theorem oneCell_u8 (M : List Int) : ∀ u ∈ M.map (Value.int .u8), u.oneCell' = true := ints_oneCell .u8 M

/-- The row behind a write of the bytes M from place off on. -/
theorem Own.row {g cap : Nat} {cur : Array Value} {off : Nat} (h1 : lo ≤ g) (h2 : g < hi) (h3 : w.heap[g]? = some (.cells cur 5 (0, 0))) (h4 : L.length ≤ cap) (h5 : cap ≤ maxLen) (h6 : cur.size = cap)
    (h7 : cur.toList.take L.length = L.map (Value.int .u8)) (hfit : off + M.length ≤ L.length) :
    Own (w.setRow g (cur.toList.take off ++ (M.map (Value.int .u8) ++ cur.toList.drop (off + M.length))).toArray) lo hi (.slice (some ⟨g, 0, none⟩) L.length cap) (splice L off M) ∧
      OnlyIn lo hi w (w.setRow g (cur.toList.take off ++ (M.map (Value.int .u8) ++ cur.toList.drop (off + M.length))).toArray) := by
  have hlen : (splice L off M).length = L.length := length_splice L off M hfit
  refine ⟨.inr ⟨g, cap, _, by rw [hlen], h1, h2, setRow_heap w g cur _ _ _ h3, by omega, h5, ?_, ?_⟩, rfl, rfl, rfl, by simp, fun k hk hn => setRow_other w g k _ (by omega)⟩
  · have : (cur.toList.drop (off + M.length)).length = cap - (off + M.length) := by simp [h6]
    have h8 : (cur.toList.take off).length = off := by rw [List.length_take]; simp; omega
    rw [List.size_toArray, List.length_append, List.length_append, this, h8, List.length_map]
    omega
  · rw [hlen, List.toList_toArray]
    have := take_laid cur.toList off (M.map (Value.int .u8)) L.length (by simpa using hfit)
    rw [List.length_map] at this
    rw [this, h7, splice_map]
end

section
variable {P : Program} {w : World} {ops : Array Oper} {rest : List Oper} {o : Oper} {a : Act} {Q : Exit → Act → World → Prop} {lo hi lo2 hi2 : Nat} {vr dv sv : Value} {L M : List Int} {off n : Nat}

theorem wpList_copy_b (hgd : o.guard = none) (d s : Operand) (T : TypeId) (ho : o.op = .call { callee := .builtin .copy, args := #[d, s], argTypes := #[T, T] })
    (hu : P.underlying T = some (.slice 5)) (hsz : (P.info? 5).map (·.size) = some 1)
    (hown : Own w lo hi vr L) (hp : PartIn vr dv off M.length) (hr : Rd w lo2 hi2 sv M) (hd : a.eval d = dv) (hs : a.eval s = sv) (hfit : off + M.length ≤ L.length)
    (h : ∀ w', Own w' lo hi vr (splice L off M) → OnlyIn lo hi w w' → wpList P ops Q rest (a.put o.dst (goInt M.length)) w') : wpList P ops Q (o :: rest) a w := by
  obtain ⟨A, m, c, A', c', rfl, rfl, p1, p2, p3⟩ := hp
  have hr0 := hr
  obtain ⟨S, sc, rfl, s1, s2, s3⟩ := hr
  by_cases h0 : M.length = 0
  · obtain rfl : M = [] := List.eq_nil_of_length_eq_zero h0
    refine wpList_copy_nothing hgd d s T T ho 5 hu hsz A' S _ c' _ sc hd hs (by simp) ?_
    have e : splice L off [] = L := by simp [splice]
    rw [e] at h
    exact h w hown (OnlyIn.refl _ _ _)
  · rcases hown with ⟨_, rfl⟩ | ⟨g, cap, cur, hv, h1, h2, h3, h4, h5, h6, h7⟩
    · rw [List.length_nil] at hfit; omega
    · injection hv with hv1 hv2 hv3
      subst hv1 hv2 hv3
      have e := p3 (by omega)
      rw [Option.map_some, Addr.add_lit, Nat.zero_add] at e
      subst e
      obtain ⟨b, ob, rfl, _⟩ := s3 0 (by omega)
      obtain ⟨q1, q2⟩ := Own.row (M := M) (off := off) h1 h2 h3 h4 h5 h6 h7 hfit
      refine wpList_copy_own hgd d s T T ho 5 hu hsz g off M.length c' ⟨b, ob, none⟩ M.length sc hd hs cur 5 h3 (M.map (Value.int .u8)) (by simp) ?_ (by simp; omega) (oneCell_u8 M) ?_
      · intro j u hu'
        have hj : j < M.length := by have := (List.getElem?_eq_some_iff.1 hu').1; simpa using this
        obtain ⟨b', o', hA, _, _, hc⟩ := hr0.spot hj
        injection hA with hA
        injection hA with hA1 hA2
        subst hA1 hA2
        rw [Addr.add_lit, hc]
        rw [List.getElem?_map, List.getElem?_eq_getElem hj] at hu'
        injection hu' with hu'
        rw [← hu', List.getD_eq_getElem?_getD, List.getElem?_eq_getElem hj]
        rfl
      · rw [List.length_map]
        exact h _ q1 q2

theorem wpList_append_b (hgd : o.guard = none) (s x : Operand) (T : TypeId) (ho : o.op = .call { callee := .builtin .append, args := #[s, x], argTypes := #[T, T] })
    (hu : P.underlying T = some (.slice 5)) (hinfo : (P.info? 5).map (fun i => (i.zero, i.size, i.bytes)) = some (some (.int .u8 0), 1, 1))
    (hown : Own w lo hi vr L) (hr : Rd w lo2 hi2 sv M) (hs : a.eval s = vr) (hx : a.eval x = sv) (hlen : L.length + M.length ≤ 1073741824) (hlo : lo ≤ w.heap.size)
    (h : ∀ v' w', Own w' lo w'.heap.size v' (L ++ M) → OnlyIn lo hi w w' → wpList P ops Q rest (a.put o.dst v') w') : wpList P ops Q (o :: rest) a w := by
  obtain ⟨i0, hi0, hz0, hz1, hz2⟩ := info_parts hinfo
  have hr0 := hr
  have hrow := row_of_own hown
  have hblk : ∀ k, vr.ownBlock = some k → lo ≤ k ∧ k < hi := by
    intro k hk
    rcases hown with ⟨rfl, _⟩ | ⟨g, cap, cur, rfl, h1, h2, _⟩
    · simp [Value.ownBlock] at hk
    · simp [Value.ownBlock] at hk
      subst hk
      exact ⟨h1, h2⟩
  have done : ∀ v' w', w'.ownsRow lo 5 1 v' (L.length + M.length) (L.map (Value.int .u8) ++ M.map (Value.int .u8)) → w.grownBy w' vr.ownBlock → wpList P ops Q rest (a.put o.dst v') w' := by
    intro v' w' q1 q2
    refine h v' w' (own_of_row q1 (by simp) (by simp)) ⟨q2.os, q2.tape, q2.output, q2.size, fun k hk hn => q2.block k hk ?_⟩
    intro e
    exact hn (hblk k e.symm)
  obtain ⟨S, sc, rfl, s1, s2, s3⟩ := hr
  rcases S with _ | ad
  · have h0 : M = [] := by
      rcases Nat.eq_zero_or_pos M.length with h0 | h0
      · exact List.eq_nil_of_length_eq_zero h0
      · obtain ⟨_, _, hA, _⟩ := s3 0 h0
        cases hA
    subst h0
    refine wpList_plain hgd fun K hK => ?_
    have hrun : (Builtin.append_ #[T, T] o.type #[vr, .slice none ([] : List Int).length sc]).run P w = .ok vr w := by
      rcases hrow.2 with ⟨rfl, _⟩ | ⟨g, cap, cur, rfl, _, _, hnc, _⟩
      · simp [Builtin.append_, run_underlying hu, sizeOf, typeInfo, hi0, Builtin.lenOf, Builtin.firstCells]
      · simp [Builtin.append_, run_underlying hu, sizeOf, typeInfo, hi0, Builtin.lenOf, Builtin.firstCells, hnc, storeCells]
    unfold Oper.wp
    simp only [List.length_nil] at hrun hx
    simp [execOp, ho, resolve, invoke, builtin, hs, hx, hrun, Result.andThen]
    exact hK _ _ (done vr w (by simpa using hrow) (World.grownBy.refl _ _))
  · refine wpList_append_own w hgd s x T ho lo 5 i0 (.int .u8 0) 1 1 hu hi0 hz0 hz1 hz2 rfl (by decide) vr L.length _ hs hrow ad M.length sc (M.map (Value.int .u8)) hx (by simp) ?_ (oneCell_u8 M) ?_ (by omega) hlo ?_
    · intro j u hu'
      have hj : j < M.length := by have := (List.getElem?_eq_some_iff.1 hu').1; simpa using this
      obtain ⟨b', o', hA, _, _, hc⟩ := hr0.spot hj
      injection hA with hA
      subst hA
      rw [Addr.add_lit, hc]
      rw [List.getElem?_map, List.getElem?_eq_getElem hj] at hu'
      injection hu' with hu'
      rw [← hu', List.getD_eq_getElem?_getD, List.getElem?_eq_getElem hj]
      rfl
    · unfold maxLen; omega
    · intro v' w' q1 q2 _
      exact done v' w' q1 q2

theorem wpList_clear_b (hgd : o.guard = none) (d : Operand) (T : TypeId) (ho : o.op = .call { callee := .builtin .clear, args := #[d], argTypes := #[T] })
    (hu : P.underlying T = some (.slice 5)) (hz : ∀ w, (zeroValue 5).run P w = .ok (.int .u8 0) w)
    (hown : Own w lo hi vr L) (hp : PartIn vr dv off n) (hd : a.eval d = dv) (hfit : off + n ≤ L.length)
    (h : ∀ w', Own w' lo hi vr (splice L off (List.replicate n 0)) → OnlyIn lo hi w w' → wpList P ops Q rest (a.put o.dst (.tuple #[])) w') : wpList P ops Q (o :: rest) a w := by
  obtain ⟨A, m, c, A', c', rfl, rfl, p1, p2, p3⟩ := hp
  refine wpList_plain hgd fun K hK => ?_
  by_cases h0 : n = 0
  · subst h0
    have hrun : (Builtin.clear_ #[T] o.type #[.slice A' 0 c']).run P w = .ok (.tuple #[]) w := by
      cases A' <;> simp [Builtin.clear_, run_underlying hu]
    unfold Oper.wp
    simp [execOp, ho, resolve, invoke, builtin, hd, hrun, Result.andThen]
    have e : splice L off (List.replicate 0 0) = L := by simp [splice]
    rw [e] at h
    exact hK _ _ (h w hown (OnlyIn.refl _ _ _))
  · rcases hown with ⟨_, rfl⟩ | ⟨g, cap, cur, hv, h1, h2, h3, h4, h5, h6, h7⟩
    · rw [List.length_nil] at hfit; omega
    · injection hv with hv1 hv2 hv3
      subst hv1 hv2 hv3
      have e := p3 (by omega)
      rw [Option.map_some, Addr.add_lit, Nat.zero_add] at e
      subst e
      obtain ⟨q1, q2⟩ := Own.row (M := List.replicate n 0) (off := off) h1 h2 h3 h4 h5 h6 h7 (by simpa using hfit)
      have hzc : (Builtin.zeroCells (Value.int .u8 0).cells n).toList = (List.replicate n (0 : Int)).map (Value.int .u8) := by
        rw [show (Value.int .u8 0).cells = #[.int .u8 0] from rfl]
        simp [Builtin.zeroCells]
        apply List.ext_getElem
        · simp
        · intro i h1 h2
          simp [Nat.mod_one]
      have hst := run_storeCells_at P g off 5 ((List.replicate n (0 : Int)).map (Value.int .u8)) 0 cur w h3 (by simp; omega) (oneCell_u8 _)
      simp only [Nat.add_zero, List.append_assoc] at hst
      obtain ⟨k, rfl⟩ : ∃ k, n = k + 1 := ⟨n - 1, by omega⟩
      have hrun : (Builtin.clear_ #[T] o.type #[.slice (some ⟨g, off, none⟩) (k + 1) c']).run P w =
          .ok (.tuple #[]) (w.setRow g (cur.toList.take off ++ ((List.replicate (k + 1) (0 : Int)).map (Value.int .u8) ++ cur.toList.drop (off + (List.replicate (k + 1) (0 : Int)).length))).toArray) := by
        rw [List.length_map] at hst
        simp [Builtin.clear_, run_underlying hu, hz, hzc]
        simp at hst
        rw [hst]
        rfl
      unfold Oper.wp
      simp [execOp, ho, resolve, invoke, builtin, hd, hrun, Result.andThen]
      simp at q1 q2
      exact hK _ _ (h _ (by simpa using q1) (by simpa using q2))
end
end Go.Proofs.Ytmipkngikimjgaa.Mem
