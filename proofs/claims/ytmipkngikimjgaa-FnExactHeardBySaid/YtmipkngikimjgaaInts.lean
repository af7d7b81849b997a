/-
  Rows of integers and of bools: the laws' own helpers on them. At most 1048576 long.
-/
import Derived.Test.YtmipkngikimjgaaRowLaws
import Derived.Test.YtmipkngikimjgaaHelp
import Derived.Test.YtmipkngikimjgaaFloorI
import Derived.Deep.RegionHeld3
import Derived.BigQuiet
namespace Go.Proofs.Ytmipkngikimjgaa.Ints
open Go.RowKit Go.Proofs.Ytmipkngikimjgaa.Mem Go.Proofs.Ytmipkngikimjgaa.Help Go.Proofs.Ytmipkngikimjgaa.Seq
set_option linter.unusedVariables false

def intR (L : List Int) : List (List Value) := L.map fun x => [Value.int .i64 x]
def booR (L : List Bool) : List (List Value) := L.map fun x => [Value.bool x]
theorem intR_length (L : List Int) : (intR L).length = L.length := by simp [intR]
theorem booR_length (L : List Bool) : (booR L).length = L.length := by simp [booR]
theorem intR_get {L : List Int} {k : Nat} {x : Int} (h : L[k]? = some x) : (intR L)[k]? = some [.int .i64 x] := by unfold intR; rw [List.getElem?_map, h]; rfl
theorem booR_get {L : List Bool} {k : Nat} {x : Bool} (h : L[k]? = some x) : (booR L)[k]? = some [.bool x] := by unfold booR; rw [List.getElem?_map, h]; rfl
theorem int_at {L : List Int} {k : Nat} (hk : k < L.length) : ∃ x, L[k]? = some x ∧ (intR L)[k]? = some [.int .i64 x] := ⟨L[k], List.getElem?_eq_getElem hk, by simp [intR, List.getElem?_eq_getElem hk]⟩
theorem boo_at {L : List Bool} {k : Nat} (hk : k < L.length) : ∃ x, L[k]? = some x ∧ (booR L)[k]? = some [.bool x] := ⟨L[k], List.getElem?_eq_getElem hk, by simp [booR, List.getElem?_eq_getElem hk]⟩
/-- The cell of one element. -/
theorem one {w : World} {lo hi : Nat} {A : Option Addr} {n c k : Nat} {R : List (List Value)} {x : Value} (h : RdR w lo hi 1 (.slice A n c) R) (hk : R[k]? = some [x]) :
    ∃ b o, A = some ⟨b, o, none⟩ ∧ b < w.heap.size ∧ w.cell? ⟨b, o + k, none⟩ = some x := by
  obtain ⟨b, o, hA, _, _, h3, h4⟩ := h.spot hk
  have h5 := h4 0 x (by omega) rfl
  rw [Nat.mul_one, Nat.add_zero] at h5
  exact ⟨b, o, hA, h3, h5⟩
theorem oneAt {w : World} {lo hi b o : Nat} {n c k : Nat} {R : List (List Value)} {x : Value} (h : RdR w lo hi 1 (.slice (some ⟨b, o, none⟩) n c) R) (hk : R[k]? = some [x]) : w.cell? ⟨b, o + k, none⟩ = some x := by
  obtain ⟨b', o', hA, _, h1⟩ := one h hk
  injection hA with hA
  injection hA with e1 e2
  subst e1 e2
  exact h1

/-- New rows come back. -/
def RetW (w : World) (t : TypeId) (sz : Nat) (R : List (List Value)) (e : Ending) (w' : World) : Prop :=
  ∃ v, e = .returned v ∧ OwnR w' w.heap.size w'.heap.size t sz v R ∧ Below w.heap.size w w'

theorem infoI : (Try.prog.info? 2).map (fun i => (i.zero, i.size, i.bytes)) = some (some (.int .i64 0), 1, 8) := by kernel_rfl
theorem infoO : (Try.prog.info? 4).map (fun i => (i.zero, i.size, i.bytes)) = some (some (.bool false), 1, 1) := by kernel_rfl

/-- A store of one element into a row of one's own, and what it asks. -/
theorem put1 {w : World} {lo hi n c k : Nat} {t : TypeId} {A : Option Addr} {R : List (List Value)} {y : Value} (h : OwnR w lo hi t 1 (.slice A n c) R) (hk : R[k]? = some [y]) :
    ∃ g, A = some ⟨g, 0, none⟩ ∧ lo ≤ g ∧ g < hi ∧ g < w.heap.size ∧ w.frozen? ⟨g, k, none⟩ = false ∧ w.cell? ⟨g, k, none⟩ = some y ∧
      ∀ x : Value, OwnR (w.setCell ⟨g, k, none⟩ x) lo hi t 1 (.slice A n c) (R.set k [x]) ∧ OnlyIn lo hi w (w.setCell ⟨g, k, none⟩ x) := by
  obtain ⟨g, hA, g1, g2, g3, hput⟩ := h.put hk
  obtain ⟨f0, ⟨u0, a0, c0⟩, hs⟩ := hput 0 (by omega)
  rw [Nat.mul_one, Nat.add_zero] at f0 c0 hs
  simp at a0
  subst a0
  exact ⟨g, hA, g1, g2, g3, f0, c0, hs⟩

theorem fill_ints (L : List Int) (k : Nat) {x : Int} (hx : L[k]? = some x) :
    (intR (L.take k ++ List.replicate (L.length - k) 0)).set k [.int .i64 x] = intR (L.take (k + 1) ++ List.replicate (L.length - (k + 1)) 0) := by
  have hk : k < L.length := (List.getElem?_eq_some_iff.1 hx).1
  have e1 : (L.take k).length = k := by rw [List.length_take]; omega
  have e2 : L.length - k = (L.length - (k + 1)) + 1 := by omega
  have e3 : L[k] = x := (List.getElem?_eq_some_iff.1 hx).2
  have e4 : (L.take k ++ List.replicate (L.length - k) 0).set k x = L.take (k + 1) ++ List.replicate (L.length - (k + 1)) 0 := by
    rw [List.set_append_right _ _ (by omega), e1, Nat.sub_self, e2, List.replicate_succ, List.set_cons_zero, List.take_succ_eq_append_getElem hk, List.append_assoc, e3]
    rfl
  rw [← e4]
  simp [intR, List.map_set]
theorem fill_int_at (L : List Int) (k : Nat) (hk : k < L.length) : (intR (L.take k ++ List.replicate (L.length - k) 0))[k]? = some [.int .i64 0] := by
  have e1 : (L.take k).length = k := by rw [List.length_take]; omega
  exact intR_get (by rw [List.getElem?_append_right (by omega), e1, Nat.sub_self, List.getElem?_replicate, if_pos (by omega)])

set_option maxHeartbeats 1000000 in
theorem toInt64S (w : World) {lo hi : Nat} {v : Value} {L : List Int} (h : RdR w lo hi 1 v (intR L)) (hL : L.length ≤ 1048576) :
    Calls Try.prog 83 #[v] w (RetW w 2 1 (intR L)) := by
  obtain ⟨i0, hi0, hz0, hz1, hz2⟩ := info_parts infoI
  have HR := Lib.hid h
  obtain ⟨A, c, rfl, hc, hm, hzz⟩ := h
  clear hzz hc hm
  rw [intR_length] at HR ⊢
  obtain ⟨n, hn⟩ : ∃ n, n = L.length := ⟨_, rfl⟩
  have HN := Lib.hid hn
  rw [← hn] at HR hL ⊢
  clear hn
  go_enter Try.func83, Try.ntmps83
  go_wp2_with (at_make; refine wpList_make_full _ rfl _ _ 67 rfl w.heap.size 2 i0 (.int .i64 0) 1 Try.underlying67 hi0 hz0 hz1 .i64 .i64 _ _ n rfl rfl rfl rfl ?_ ?_ ?_ ?_)
  · rw [hz2]; omega
  · unfold maxLen; omega
  · exact Nat.le_refl _
  · intro w1 hown hg
    have hb1 : Below w.heap.size w w1 := (Below.refl _ _).grown hg (Nat.le_refl _) (fun k hk => by cases hk)
    have ho1 : OwnR w1 w.heap.size w1.heap.size 2 1 (.slice (some ⟨w.heap.size, 0, none⟩) n n) (intR (L.take 0 ++ List.replicate (n - 0) 0)) := by
      have := ownR_of_make (w := w) (sz := 1) (v := .slice (some ⟨w.heap.size, 0, none⟩) n n) (z := #[.int .i64 0]) rfl (by omega) (by rw [Nat.mul_one]; exact hown)
      simpa [intR] using this
    have HO1 := Lib.hid ho1
    have HB1 := Lib.hid hb1
    clear hown hg ho1 hb1 hi0 hz0 hz1 hz2
    go_wp2_with fail
    go_loopw [4] (fun i wr => ∃ k : Nat, k ≤ n ∧ i = .int .i64 k ∧ Hid (OwnR wr w.heap.size w1.heap.size 2 1 (.slice (some ⟨w.heap.size, 0, none⟩) n n) (intR (L.take k ++ List.replicate (n - k) 0))) ∧ Hid (Below w.heap.size w wr) ∧ Hid (w1.heap.size ≤ wr.heap.size))
      (fun i _ => n - (intOf i).toNat)
    case atStart => exact ⟨0, Nat.zero_le _, rfl, HO1, HB1, Lib.hid (Nat.le_refl _)⟩
    case round =>
      obtain ⟨k, hk, rfl, ho, hb, hz⟩ := hrel
      by_cases hlt : k < n
      · obtain ⟨x, hx, hp⟩ := int_at (L := L) (k := k) (by have := HN.out; omega)
        have HX := Lib.hid hx
        obtain ⟨b, o, rfl, hb1, c0⟩ := one (HR.out.below hb.out) hp
        have HFA : Hid ((intR (L.take k ++ List.replicate (n - k) 0))[k]? = some [.int .i64 0]) := Lib.hid (by have := fill_int_at L k (by have := HN.out; omega); rwa [← HN.out] at this)
        have HFS : Hid ((intR (L.take k ++ List.replicate (n - k) 0)).set k [.int .i64 x] = intR (L.take (k + 1) ++ List.replicate (n - (k + 1)) 0)) := Lib.hid (by have := fill_ints L k hx; rwa [← HN.out] at this)
        clear hp hx
        obtain ⟨g, hA, g1, g2, g3, f0, d0, hs⟩ := put1 ho.out HFA.out
        injection hA with hA
        injection hA with hA
        subst hA
        have HPUT := Lib.hid (hs (.int .i64 x))
        rw [HFS.out] at HPUT
        clear HFA HFS hs ho
        go_wp2
        go_roundw
        case rel => exact ⟨k + 1, by omega, by go_num, Lib.hid HPUT.out.1, Lib.hid (below_touch hb.out HPUT.out.2 (Nat.le_refl _) (Nat.le_refl _)), Lib.hid (Nat.le_trans hz.out HPUT.out.2.size)⟩
        case measure => simp [intOf]; omega
      · obtain rfl : k = n := by omega
        go_wp2
        go_ret
        refine ⟨_, rfl, ?_, hb.out⟩
        have := ho.out
        rw [Nat.sub_self, List.replicate_zero, List.append_nil, List.take_of_length_le (by have := HN.out; omega)] at this
        exact this.more (Nat.le_refl _) hz.out

set_option maxHeartbeats 400000 in
theorem szInt64S (w : World) {A : Option Addr} {n c : Nat} {m : Int} (hn : n ≤ 9223372036854775807) (hm : 0 ≤ m ∧ m ≤ 1048576) :
    Calls Try.prog 82 #[.slice A n c, .int .i64 m] w (RetV w (.int .i64 (if m < (n : Int) then -1 else m - n))) := by
  obtain ⟨m1, m2⟩ := hm
  by_cases hq : m < (n : Int)
  · rw [if_pos hq]
    go_enter Try.func82, Try.ntmps82
    go_wp2
    go_ret
    exact ⟨rfl, Below.refl _ _⟩
  · rw [if_neg hq]
    go_enter Try.func82, Try.ntmps82
    go_wp2
    go_ret
    exact ⟨rfl, Below.refl _ _⟩

/-- Two slices that read alike. -/
structure Two1 (w0 : World) (va vb : Value) (R : List (List Value)) (wr : World) : Prop where
  a : RdR wr 0 wr.heap.size 1 va R
  b : RdR wr 0 wr.heap.size 1 vb R
  below : Below w0.heap.size w0 wr
theorem rdR_all {w : World} {lo hi sz : Nat} {v : Value} {R : List (List Value)} (h : RdR w lo hi sz v R) : RdR w 0 w.heap.size sz v R := by
  obtain ⟨A, c, hv, hc, hm, hk⟩ := h
  refine ⟨A, c, hv, hc, hm, fun i r hr => ?_⟩
  obtain ⟨b, o, hA, h1, h2, h3, h4⟩ := hk i r hr
  exact ⟨b, o, hA, Nat.zero_le _, h3, h3, h4⟩
theorem Two1.step {w0 wr w2 : World} {va vb : Value} {R : List (List Value)} (h : Hid (Two1 w0 va vb R wr)) (hb : Below wr.heap.size wr w2) : Hid (Two1 w0 va vb R w2) :=
  Lib.hid ⟨rdR_all (h.out.a.below hb), rdR_all (h.out.b.below hb), below_then h.out.below hb (Nat.le_refl _)⟩

set_option maxHeartbeats 1000000 in
theorem eqInt64S_same (w : World) {la ha lb hb : Nat} {va vb : Value} {L : List Int} (hA : RdR w la ha 1 va (intR L)) (hB : RdR w lb hb 1 vb (intR L)) :
    Calls Try.prog 84 #[va, vb] w (RetV w (.bool true)) := by
  have HT : Hid (Two1 w va vb (intR L) w) := Lib.hid ⟨rdR_all hA, rdR_all hB, Below.refl _ _⟩
  obtain ⟨A, ca, rfl, hca, hma, _⟩ := hA
  obtain ⟨B, cb, rfl, hcb, hmb, _⟩ := hB
  rw [intR_length] at HT hca hcb ⊢
  obtain ⟨n, hn⟩ : ∃ n, n = L.length := ⟨_, rfl⟩
  have HN := Lib.hid hn
  rw [← hn] at HT hca hcb ⊢
  have hnm : n ≤ 9223372036854775807 := by unfold maxLen at hma; omega
  clear hn hma hmb hca hcb
  go_enter Try.func84, Try.ntmps84
  go_wp2_with fail
  go_loopw [5] (fun i wr => ∃ k : Nat, k ≤ n ∧ i = .int .i64 k ∧ Hid (Two1 w (.slice A n ca) (.slice B n cb) (intR L) wr)) (fun i _ => n - (intOf i).toNat)
  case atStart => exact ⟨0, Nat.zero_le _, rfl, HT⟩
  case round =>
    obtain ⟨k, hk, rfl, ho⟩ := hrel
    clear HT
    by_cases hlt : k < n
    · obtain ⟨x, _, hp⟩ := int_at (L := L) (k := k) (by have := HN.out; omega)
      have HP := Lib.hid hp
      clear hp
      obtain ⟨b1, o1, rfl, hb1, x0⟩ := one ho.out.a HP.out
      obtain ⟨b2, o2, rfl, hb2, y0⟩ := one ho.out.b HP.out
      go_wp2_with fail
      go_quiet (fail)
      have HD := Lib.hid (fun q => Two1.step ho (drawn (n := q) (Below.refl _ wr)))
      go_wp2
      go_roundw
      case rel => exact ⟨k + 1, by omega, by go_num, HD.out _⟩
      case measure => simp [intOf]; omega
    · obtain rfl : k = n := by omega
      go_wp2
      go_ret
      exact ⟨rfl, ho.out.below⟩

/-- The mark of a number in a bool. -/
def m3 (s : Nat) : Bool := decide (((s : Nat) : Int).tmod 3 = 0)
def marksI (s n : Nat) : List Int := (List.range n).map fun i => ((s + i : Nat) : Int)
def marksB (s n : Nat) : List Bool := (List.range n).map fun i => m3 (s + i)
theorem marksI_length (s n : Nat) : (marksI s n).length = n := by simp [marksI]
theorem marksB_length (s n : Nat) : (marksB s n).length = n := by simp [marksB]
theorem marksI_get {s n i : Nat} (h : i < n) : (intR (marksI s n))[i]? = some [.int .i64 ((s + i : Nat) : Int)] := by simp [intR, marksI, h]
theorem marksB_get {s n i : Nat} (h : i < n) : (booR (marksB s n))[i]? = some [.bool (m3 (s + i))] := by simp [booR, marksB, h]
theorem m3_at (s k : Nat) : m3 (s + k) = ((((s : Int) + (k : Int)) % 3) == 0) := rfl

theorem marksI_step (s k : Nat) (L : List Int) (hk : k < L.length) : (intR (marksI s k ++ L.drop k)).set k [.int .i64 ((s + k : Nat) : Int)] = intR (marksI s (k + 1) ++ L.drop (k + 1)) := by
  have e : (marksI s k ++ L.drop k).set k ((s + k : Nat) : Int) = marksI s (k + 1) ++ L.drop (k + 1) := by
    rw [List.set_append_right _ _ (by rw [marksI_length]; omega), marksI_length, Nat.sub_self, List.drop_eq_getElem_cons hk, List.set_cons_zero]
    simp [marksI, List.range_succ]
  rw [← e]
  simp [intR, List.map_set]
theorem marksI_at (s k : Nat) (L : List Int) {x : Int} (hx : L[k]? = some x) : (intR (marksI s k ++ L.drop k))[k]? = some [.int .i64 x] := by
  have : (marksI s k ++ L.drop k)[k]? = some x := by
    rw [List.getElem?_append_right (by rw [marksI_length]; omega), marksI_length, Nat.sub_self, List.getElem?_drop]
    exact hx
  exact intR_get this

theorem marksB_step (s k : Nat) (L : List Bool) (hk : k < L.length) : (booR (marksB s k ++ L.drop k)).set k [.bool (m3 (s + k))] = booR (marksB s (k + 1) ++ L.drop (k + 1)) := by
  have e : (marksB s k ++ L.drop k).set k (m3 (s + k)) = marksB s (k + 1) ++ L.drop (k + 1) := by
    rw [List.set_append_right _ _ (by rw [marksB_length]; omega), marksB_length, Nat.sub_self, List.drop_eq_getElem_cons hk, List.set_cons_zero]
    simp [marksB, List.range_succ]
  rw [← e]
  simp [booR, List.map_set]
theorem marksB_at (s k : Nat) (L : List Bool) {x : Bool} (hx : L[k]? = some x) : (booR (marksB s k ++ L.drop k))[k]? = some [.bool x] := by
  have : (marksB s k ++ L.drop k)[k]? = some x := by
    rw [List.getElem?_append_right (by rw [marksB_length]; omega), marksB_length, Nat.sub_self, List.getElem?_drop]
    exact hx
  exact booR_get this

end Go.Proofs.Ytmipkngikimjgaa.Ints
