/-
  Laws for the walk on slices of structs: make and copy, in the words of Seq. No condition.
-/
import Derived.Test.YtmipkngikimjgaaSeq
import Derived.Test.YtmipkngikimjgaaLaws
namespace Go.Proofs.Ytmipkngikimjgaa.Seq
open Go.RowKit Go.Proofs.Ytmipkngikimjgaa.Mem
set_option linter.unusedVariables false

theorem madeCells_rows {z : Array Value} {sz n : Nat} (hz : z.size = sz) (hs : 0 < sz) : (madeCells z (n * sz)).toList = (List.replicate n z.toList).flatten := by
  have hall : ∀ r ∈ List.replicate n z.toList, r.length = sz := by
    intro r hr
    rw [(List.mem_replicate.1 hr).2]
    simpa using hz
  have hlen : (List.replicate n z.toList).flatten.length = n * sz := by
    rw [flat_length hall, List.length_replicate]
  apply List.ext_getElem?
  intro k
  by_cases hk : k < n * sz
  · have hk1 : k / sz < n := (Nat.div_lt_iff_lt_mul hs).2 hk
    have hk2 : k % sz < sz := Nat.mod_lt _ hs
    have h1 := flat_get hall (i := k / sz) (j := k % sz) (r := z.toList) (by rw [List.getElem?_replicate, if_pos hk1]) hk2
    have h2 : k / sz * sz + k % sz = k := by rw [Nat.mul_comm]; exact Nat.div_add_mod k sz
    rw [h2] at h1
    rw [h1]
    have h3 : (z[k % sz]! : Value) = z[k % sz]'(by omega) := getElem!_pos z (k % sz) (by omega)
    subst hz
    rw [Array.getElem?_toList, Array.getElem?_eq_getElem (by rw [size_madeCells]; exact hk), Array.getElem?_toList, Array.getElem?_eq_getElem (by omega), ← h3]
    simp [madeCells]
  · rw [List.getElem?_eq_none (by rw [Array.length_toList, size_madeCells]; omega), List.getElem?_eq_none (by omega)]

section
variable {P : Program} {w : World} {lo hi lo2 hi2 sz : Nat} {t : TypeId} {v sv : Value} {R Z : List (List Value)}

/-- What make hands back, as rows. -/
theorem ownR_of_make {w' : World} {z : Array Value} {n : Nat} {v : Value} (hz : z.size = sz) (hs : 0 < sz) (h : w'.ownsRow w.heap.size t sz v n (madeCells z (n * sz)).toList) : OwnR w' w.heap.size w'.heap.size t sz v (List.replicate n z.toList) := by
  refine ownR_of_row ?_ h (by simp) (madeCells_rows hz hs)
  intro r hr
  rw [(List.mem_replicate.1 hr).2]
  simpa using hz

theorem run_copy_rows (w : World) (dT sT ty elem : TypeId) (g dLen dCap : Nat) (a : Addr) (sLen sCap : Nat) (cur : Array Value) (t : TypeId) (cs : List Value) (n : Nat)
    (hu : P.underlying dT = some (.slice elem)) (hs : (P.info? elem).map (·.size) = some sz)
    (hg : w.heap[g]? = some (.cells cur t (0, 0))) (hn : n = Nat.min sLen dLen) (hcs : cs.length = n * sz)
    (hsrc : ∀ j v, cs[j]? = some v → w.cell? (a.add j) = some v) (hfit : cs.length ≤ cur.size) (h1 : ∀ v ∈ cs, v.oneCell' = true) :
    (Builtin.copy_ #[dT, sT] ty #[.slice (some ⟨g, 0, none⟩) dLen dCap, .slice (some a) sLen sCap]).run P w =
      .ok (goInt n) (w.setRow g (cs ++ cur.toList.drop cs.length).toArray) := by
  have hl := run_loadCells_list (P := P) w a cs hsrc
  have hst := run_storeCells_at P g 0 t cs 0 cur w hg (by simpa using hfit) h1
  rw [hcs] at hl
  cases hq : P.info? elem with
  | none => simp [hq] at hs
  | some i =>
    have hi : i.size = sz := by simpa [hq] using hs
    simp [Builtin.copy_, run_underlying hu, Builtin.lenOf, Builtin.firstCells, sizeOf, typeInfo, hq, hi, ← hn, hl, hst]

/-- copy of a whole slice of rows into a row of the call's own that is as long. -/
theorem wpList_copy_r {ops : Array Oper} {rest : List Oper} {o : Oper} {a : Act} {Q : Exit → Act → World → Prop} (hgd : o.guard = none) (d s : Operand) (T : TypeId)
    (ho : o.op = .call { callee := .builtin .copy, args := #[d, s], argTypes := #[T, T] }) (hu : P.underlying T = some (.slice t)) (hsz : (P.info? t).map (·.size) = some sz)
    (hown : OwnR w lo hi t sz v Z) (hr : RdR w lo2 hi2 sz sv R) (hR : ∀ r ∈ R, r.length = sz ∧ ∀ u ∈ r, u.oneCell' = true) (hl : Z.length = R.length) (hs0 : 0 < sz)
    (hd : a.eval d = v) (hs : a.eval s = sv)
    (h : ∀ w', OwnR w' lo hi t sz v R → OnlyIn lo hi w w' → wpList P ops Q rest (a.put o.dst (goInt R.length)) w') : wpList P ops Q (o :: rest) a w := by
  refine wpList_plain hgd fun K hK => ?_
  have hr0 := hr
  have hall : ∀ r ∈ R, r.length = sz := fun r hx => (hR r hx).1
  obtain ⟨S, sc, rfl, s1, s2, s3⟩ := hr
  rcases Nat.eq_zero_or_pos R.length with h0 | h0
  · obtain rfl := List.eq_nil_of_length_eq_zero h0
    obtain rfl := List.eq_nil_of_length_eq_zero hl
    have hform := hown.form
    obtain ⟨A, m, c, rfl⟩ := hform
    have hm : m = 0 := by
      obtain ⟨A', c', hv, _⟩ := hown.rd
      injection hv
    subst hm
    have hrun : (Builtin.copy_ #[T, T] o.type #[.slice A 0 c, .slice S ([] : List (List Value)).length sc]).run P w = .ok (goInt 0) w := by
      cases hq : P.info? t with
      | none => simp [hq] at hsz
      | some i =>
        rcases A with _ | A
        · rcases S with _ | S
          · simp [Builtin.copy_, run_underlying hu, Builtin.lenOf, Builtin.firstCells, sizeOf, typeInfo, hq]
          · have hl := run_loadCells_list (P := P) w S [] (fun j v hj => by simp at hj)
            simp at hl
            simp [Builtin.copy_, run_underlying hu, Builtin.lenOf, Builtin.firstCells, sizeOf, typeInfo, hq, hl]
        · rcases S with _ | S
          · simp [Builtin.copy_, run_underlying hu, Builtin.lenOf, Builtin.firstCells, sizeOf, typeInfo, hq, storeCells]
          · have hl := run_loadCells_list (P := P) w S [] (fun j v hj => by simp at hj)
            simp at hl
            simp [Builtin.copy_, run_underlying hu, Builtin.lenOf, Builtin.firstCells, sizeOf, typeInfo, hq, hl, storeCells]
    unfold Oper.wp
    simp [execOp, ho, resolve, invoke, builtin, hd, hs] at hrun ⊢
    simp [hrun, Result.andThen]
    exact hK _ _ (h w hown (OnlyIn.refl _ _ _))
  · obtain ⟨hz0, hzz⟩ := hown
    rcases hzz with ⟨_, rfl⟩ | ⟨g, cap, cur, rfl, h1, h2, h3, h4, h5, h6, h7⟩
    · rw [List.length_nil] at hl; omega
    · obtain ⟨r0, hr00⟩ : ∃ r, R[0]? = some r := ⟨R[0], List.getElem?_eq_getElem h0⟩
      obtain ⟨b, ob, rfl, _⟩ := s3 0 r0 hr00
      have hflen : R.flatten.length = R.length * sz := flat_length hall
      have hrun := run_copy_rows (P := P) (sz := sz) w T T o.type t g Z.length cap ⟨b, ob, none⟩ R.length sc cur t R.flatten R.length hu hsz h3 (by rw [hl]; exact (Nat.min_self _).symm) hflen
        (by
          intro j u hj
          have hjl : j < R.length * sz := by have := (List.getElem?_eq_some_iff.1 hj).1; omega
          have hk1 : j / sz < R.length := (Nat.div_lt_iff_lt_mul hs0).2 hjl
          have hk2 : j % sz < sz := Nat.mod_lt _ hs0
          have hq := List.getElem?_eq_getElem hk1
          have h8 := flat_get hall hq hk2
          have h9 : j / sz * sz + j % sz = j := by rw [Nat.mul_comm]; exact Nat.div_add_mod j sz
          rw [h9, hj] at h8
          obtain ⟨b', o', hA, _, _, _, hc⟩ := hr0.spot hq
          injection hA with hA
          injection hA with e1 e2
          subst e1 e2
          have := hc (j % sz) u hk2 h8.symm
          rw [Addr.add_lit, ← this]
          congr 2
          omega)
        (by rw [hflen, ← hl, h6]; exact Nat.mul_le_mul_right _ h4)
        (by
          intro u hu'
          obtain ⟨r, hr1, hr2⟩ := List.mem_flatten.1 hu'
          exact (hR r hr1).2 u hr2)
      have hfin : OwnR (w.setRow g (R.flatten ++ cur.toList.drop R.flatten.length).toArray) lo hi t sz (.slice (some ⟨g, 0, none⟩) Z.length cap) R := by
        refine ⟨hall, .inr ⟨g, cap, _, by rw [hl], h1, h2, setRow_heap w g cur _ _ _ h3, by omega, h5, ?_, ?_⟩⟩
        · have h10 : R.length * sz ≤ cap * sz := Nat.mul_le_mul_right _ (by omega)
          have h11 : cur.toList.length = cap * sz := h6
          rw [List.size_toArray, List.length_append, List.length_drop, hflen, h11]
          omega
        · rw [List.toList_toArray, List.take_append_of_le_length (by omega), List.take_of_length_le (by omega)]
      have hoi : OnlyIn lo hi w (w.setRow g (R.flatten ++ cur.toList.drop R.flatten.length).toArray) := ⟨rfl, rfl, rfl, by simp, fun k hk hn => setRow_other w g k _ (by omega)⟩
      obtain ⟨w2, hw2⟩ : ∃ w2, w2 = w.setRow g (R.flatten ++ cur.toList.drop R.flatten.length).toArray := ⟨_, rfl⟩
      rw [← hw2] at hrun hfin hoi
      unfold Oper.wp
      simp [execOp, ho, resolve, invoke, builtin, hd, hs, hrun, Result.andThen]
      exact hK _ _ (h _ hfin hoi)

/-- append of a whole slice of rows to a row of the call's own. -/
theorem wpList_append_rs {ops : Array Oper} {rest : List Oper} {o : Oper} {a : Act} {Q : Exit → Act → World → Prop} (hgd : o.guard = none) (s x : Operand) (T : TypeId)
    (ho : o.op = .call { callee := .builtin .append, args := #[s, x], argTypes := #[T, T] }) (z : Value) (bytes : Nat) (hu : P.underlying T = some (.slice t))
    (hinfo : (P.info? t).map (fun i => (i.zero, i.size, i.bytes)) = some (some z, sz, bytes)) (hz : z.cells.size = sz) (hs0 : 0 < sz)
    (hown : OwnR w lo hi t sz v Z) (hr : RdR w lo2 hi2 sz sv R) (hR : ∀ r ∈ R, r.length = sz ∧ ∀ u ∈ r, u.oneCell' = true) (hs : a.eval s = v) (hx : a.eval x = sv)
    (hlen : (Z.length + R.length) * bytes ≤ 140737488355328) (hlen2 : Z.length + R.length ≤ maxLen) (hlo : lo ≤ w.heap.size)
    (h : ∀ v' w', OwnR w' lo w'.heap.size t sz v' (Z ++ R) → OnlyIn lo hi w w' → wpList P ops Q rest (a.put o.dst v') w') : wpList P ops Q (o :: rest) a w := by
  obtain ⟨i0, hi0, hz0, hz1, hz2⟩ := info_parts hinfo
  have hr0 := hr
  have hall : ∀ r ∈ R, r.length = sz := fun r hx => (hR r hx).1
  have hrow := row_of_ownR hown
  have done : ∀ v' w', w'.ownsRow lo t sz v' (Z.length + R.length) (Z.flatten ++ R.flatten) → w.grownBy w' v.ownBlock → wpList P ops Q rest (a.put o.dst v') w' := by
    intro v' w' q1 q2
    refine h v' w' (ownR_of_row ?_ q1 (by simp) (by simp)) (only_grown q2 (fun k hk => ⟨(hown.blk hk).1, (hown.blk hk).2.1⟩))
    intro r hx
    rcases List.mem_append.1 hx with hx | hx
    · exact hown.1 r hx
    · exact hall r hx
  obtain ⟨S, sc, rfl, s1, s2, s3⟩ := hr
  rcases S with _ | ad
  · have h0 : R = [] := by
      rcases Nat.eq_zero_or_pos R.length with h0 | h0
      · exact List.eq_nil_of_length_eq_zero h0
      · obtain ⟨_, _, hA, _⟩ := s3 0 R[0] (List.getElem?_eq_getElem h0)
        cases hA
    subst h0
    refine wpList_plain hgd fun K hK => ?_
    have hrun : (Builtin.append_ #[T, T] o.type #[v, .slice none ([] : List (List Value)).length sc]).run P w = .ok v w := by
      rcases hrow.2 with ⟨rfl, _⟩ | ⟨g, cap, cur, rfl, _, _, hnc, _⟩
      · simp [Builtin.append_, run_underlying hu, sizeOf, typeInfo, hi0, Builtin.lenOf, Builtin.firstCells]
      · simp [Builtin.append_, run_underlying hu, sizeOf, typeInfo, hi0, Builtin.lenOf, Builtin.firstCells, hnc, storeCells]
    unfold Oper.wp
    simp only [List.length_nil] at hrun hx
    simp [execOp, ho, resolve, invoke, builtin, hs, hx, hrun, Result.andThen]
    exact hK _ _ (done v w (by simpa using hrow) (World.grownBy.refl _ _))
  · refine wpList_append_own w hgd s x T ho lo t i0 z sz bytes hu hi0 hz0 hz1 hz2 hz hs0 v Z.length _ hs hrow ad R.length sc R.flatten hx (flat_length hall) ?_ ?_ hlen2 hlen hlo ?_
    · intro j u hj
      have hflen : R.flatten.length = R.length * sz := flat_length hall
      have hjl : j < R.length * sz := by have := (List.getElem?_eq_some_iff.1 hj).1; omega
      have hk1 : j / sz < R.length := (Nat.div_lt_iff_lt_mul hs0).2 hjl
      have hk2 : j % sz < sz := Nat.mod_lt _ hs0
      have hq := List.getElem?_eq_getElem hk1
      have h8 := flat_get hall hq hk2
      have h9 : j / sz * sz + j % sz = j := by rw [Nat.mul_comm]; exact Nat.div_add_mod j sz
      rw [h9, hj] at h8
      obtain ⟨b', o', hA, _, _, _, hc⟩ := hr0.spot hq
      injection hA with hA
      subst hA
      have := hc (j % sz) u hk2 h8.symm
      rw [Addr.add_lit, ← this]
      congr 2
      omega
    · intro u hu'
      obtain ⟨r, hr1, hr2⟩ := List.mem_flatten.1 hu'
      exact (hR r hr1).2 u hr2
    · intro v' w' q1 q2 _
      exact done v' w' q1 q2
end
end Go.Proofs.Ytmipkngikimjgaa.Seq
