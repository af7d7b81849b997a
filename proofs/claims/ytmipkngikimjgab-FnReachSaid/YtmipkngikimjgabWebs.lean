/-
  Words for webs in memory: a slice of knots, each with a slice of its own. No condition.
-/
import Derived.Test.YtmipkngikimjgabInts
import Derived.Test.YtmipkngikimjgabPure6
namespace Go.Proofs.Ytmipkngikimjgab.Webs
open Go.RowKit Go.Proofs.Ytmipkngikimjgab.Mem Go.Proofs.Ytmipkngikimjgab.Pure Go.Proofs.Ytmipkngikimjgab.Help Go.Proofs.Ytmipkngikimjgab.Seq Go.Proofs.Ytmipkngikimjgab.Ints
set_option linter.unusedVariables false

/-- The rows of a web: V are the slices of its references. -/
def knR (K : List Kn) (V : List Value) : List (List Value) := List.zipWith (fun k x => [Value.bool k.t, .bool k.r, x]) K V
theorem knR_length {K : List Kn} {V : List Value} (h : V.length = K.length) : (knR K V).length = K.length := by simp [knR, h]
theorem knR_get {K : List Kn} {V : List Value} {i : Nat} {k : Kn} {x : Value} (hk : K[i]? = some k) (hx : V[i]? = some x) : (knR K V)[i]? = some [.bool k.t, .bool k.r, x] := by
  simp [knR, List.getElem?_zipWith, hk, hx]
theorem knR_all (K : List Kn) (V : List Value) : ∀ r ∈ knR K V, r.length = 3 := by
  intro r hr
  unfold knR at hr
  obtain ⟨i, hi, rfl⟩ := List.getElem_of_mem hr
  simp
theorem knR_set {K : List Kn} {V : List Value} (i : Nat) (k : Kn) (x : Value) : (knR K V).set i [.bool k.t, .bool k.r, x] = knR (K.set i k) (V.set i x) := by
  unfold knR
  apply List.ext_getElem?
  intro j
  rw [List.getElem?_set]
  by_cases hj : i = j
  · subst hj
    simp only [if_true, List.length_zipWith]
    rw [List.getElem?_zipWith]
    by_cases h1 : i < K.length
    · by_cases h2 : i < V.length
      · rw [if_pos (by omega), List.getElem?_set_self h1, List.getElem?_set_self h2]
      · rw [if_neg (by omega), List.getElem?_set_self h1, List.getElem?_eq_none (by rw [List.length_set]; omega)]
    · rw [if_neg (by omega), List.getElem?_eq_none (by rw [List.length_set]; omega)]
  · rw [if_neg hj, List.getElem?_zipWith, List.getElem?_zipWith, List.getElem?_set_ne hj, List.getElem?_set_ne hj]

/-- The slice v reads as the web K; all its cells lie in the blocks from lo to below hi. -/
def RdK (w : World) (lo hi : Nat) (v : Value) (K : List Kn) : Prop :=
  ∃ V, V.length = K.length ∧ RdR w lo hi 3 v (knR K V) ∧ ∀ (i : Nat) (k : Kn) (x : Value), K[i]? = some k → V[i]? = some x → RdR w lo hi 1 x (intR k.f)
/-- .. and all of it is the call's own, each slice in a block of its own. -/
def OwnK (w : World) (lo hi : Nat) (v : Value) (K : List Kn) : Prop :=
  ∃ V, V.length = K.length ∧ OwnR w lo hi 36 3 v (knR K V) ∧ (∀ (i : Nat) (k : Kn) (x : Value), K[i]? = some k → V[i]? = some x → OwnR w lo hi 2 1 x (intR k.f)) ∧
    (∀ (i : Nat) (x : Value) (q : Nat), V[i]? = some x → x.ownBlock = some q → v.ownBlock ≠ some q) ∧
    ∀ (i j : Nat) (x y : Value) (q : Nat), i ≠ j → V[i]? = some x → V[j]? = some y → x.ownBlock = some q → y.ownBlock ≠ some q

section
variable {w w' : World} {lo hi lo' hi' : Nat} {v : Value} {K : List Kn}
theorem RdK.touch (h : RdK w lo hi v K) (ht : OnlyIn lo' hi' w w') (hd : hi ≤ lo' ∨ hi' ≤ lo) : RdK w' lo hi v K := by
  obtain ⟨V, h1, h2, h3⟩ := h
  exact ⟨V, h1, h2.touch ht hd, fun i k x hk hx => (h3 i k x hk hx).touch ht hd⟩
theorem RdK.below (h : RdK w lo hi v K) (hb : Below w.heap.size w w') : RdK w' lo hi v K := by
  obtain ⟨V, h1, h2, h3⟩ := h
  exact ⟨V, h1, h2.below hb, fun i k x hk hx => (h3 i k x hk hx).below hb⟩
theorem RdK.more (h : RdK w lo hi v K) (h1 : lo' ≤ lo) (h2 : hi ≤ hi') : RdK w lo' hi' v K := by
  obtain ⟨V, q1, q2, q3⟩ := h
  exact ⟨V, q1, q2.more h1 h2, fun i k x hk hx => (q3 i k x hk hx).more h1 h2⟩
theorem RdK.all (h : RdK w lo hi v K) : RdK w 0 w.heap.size v K := by
  obtain ⟨V, q1, q2, q3⟩ := h
  exact ⟨V, q1, Ints.rdR_all q2, fun i k x hk hx => Ints.rdR_all (q3 i k x hk hx)⟩
theorem OwnK.touch (h : OwnK w lo hi v K) (ht : OnlyIn lo' hi' w w') (hd : hi ≤ lo' ∨ hi' ≤ lo) : OwnK w' lo hi v K := by
  obtain ⟨V, h1, h2, h3, h4⟩ := h
  exact ⟨V, h1, h2.touch ht hd, fun i k x hk hx => (h3 i k x hk hx).touch ht hd, h4⟩
theorem OwnK.below (h : OwnK w lo hi v K) (hb : Below w.heap.size w w') : OwnK w' lo hi v K := by
  obtain ⟨V, h1, h2, h3, h4⟩ := h
  exact ⟨V, h1, h2.below hb, fun i k x hk hx => (h3 i k x hk hx).below hb, h4⟩
theorem OwnK.more (h : OwnK w lo hi v K) (h1 : lo' ≤ lo) (h2 : hi ≤ hi') : OwnK w lo' hi' v K := by
  obtain ⟨V, q1, q2, q3, q4⟩ := h
  exact ⟨V, q1, q2.more h1 h2, fun i k x hk hx => (q3 i k x hk hx).more h1 h2, q4⟩
theorem OwnK.rd (h : OwnK w lo hi v K) : RdK w lo hi v K := by
  obtain ⟨V, h1, h2, h3, h4⟩ := h
  exact ⟨V, h1, h2.rd, fun i k x hk hx => (h3 i k x hk hx).rd⟩
theorem RdK.form (h : RdK w lo hi v K) : ∃ A c, v = .slice A K.length c ∧ K.length ≤ c ∧ c ≤ maxLen := by
  obtain ⟨V, h1, ⟨A, c, hv, hc, hm, _⟩, _⟩ := h
  rw [knR_length h1] at hv hc
  exact ⟨A, c, hv, hc, hm⟩
/-- One knot: its cells, and its references. -/
theorem RdK.spot {A : Option Addr} {n c i : Nat} {k : Kn} (h : RdK w lo hi (.slice A n c) K) (hk : K[i]? = some k) :
    ∃ b o x, A = some ⟨b, o, none⟩ ∧ b < w.heap.size ∧ w.cell? ⟨b, o + i * 3, none⟩ = some (.bool k.t) ∧ w.cell? ⟨b, o + i * 3 + 1, none⟩ = some (.bool k.r) ∧ w.cell? ⟨b, o + i * 3 + 2, none⟩ = some x ∧ RdR w lo hi 1 x (intR k.f) := by
  obtain ⟨V, h1, h2, h3⟩ := h
  have hi : i < K.length := (List.getElem?_eq_some_iff.1 hk).1
  have hx : V[i]? = some (V[i]'(by omega)) := List.getElem?_eq_getElem (by omega)
  obtain ⟨b, o, hA, _, _, hb, hc⟩ := h2.spot (knR_get hk hx)
  exact ⟨b, o, _, hA, hb, hc 0 _ (by omega) rfl, hc 1 _ (by omega) rfl, hc 2 _ (by omega) rfl, h3 i k _ hk hx⟩
end

theorem setRow_other_blk (g : Nat) (xs : List Value) : ∀ (w : World) (o q : Nat), q ≠ g → (setRowAt w g o xs).heap[q]? = w.heap[q]? := by
  induction xs with
  | nil => intro w o q hq; rfl
  | cons x xs ih =>
    intro w o q hq
    show (setRowAt (w.setCell ⟨g, o, none⟩ x) g (o + 1) xs).heap[q]? = _
    rw [ih _ _ _ hq]
    exact Below.heap_setCell w _ _ q hq

/-- One knot is laid into a web of one's own, its references a new row. -/
theorem OwnK.put {w : World} {lo hi hi2 g n c i : Nat} {K : List Kn} {k0 k : Kn} {x : Value} (h : OwnK w lo hi (.slice (some ⟨g, 0, none⟩) n c) K) (hle : lo ≤ hi) (hi2' : hi ≤ hi2) (hk : K[i]? = some k0) (hx : OwnR w hi hi2 2 1 x (intR k.f)) :
    OwnK (setRowAt w g (i * 3) [.bool k.t, .bool k.r, x]) lo hi2 (.slice (some ⟨g, 0, none⟩) n c) (K.set i k) ∧ OnlyIn lo hi w (setRowAt w g (i * 3) [.bool k.t, .bool k.r, x]) := by
  obtain ⟨V, h1, h2, h3, h4, h5⟩ := h
  have hik : i < K.length := (List.getElem?_eq_some_iff.1 hk).1
  have hV : V[i]? = some (V[i]'(by omega)) := List.getElem?_eq_getElem (by omega)
  have hput := OwnR.puts [Value.bool k.t, .bool k.r, x] (j := 0) h2 (knR_get hk hV) (by simp)
  have e1 : (knR K V).set i (List.take 0 [Value.bool k0.t, .bool k0.r, V[i]'(by omega)] ++ ([Value.bool k.t, .bool k.r, x] ++ List.drop (0 + [Value.bool k.t, Value.bool k.r, x].length) [Value.bool k0.t, .bool k0.r, V[i]'(by omega)])) = knR (K.set i k) (V.set i x) := by
    rw [← knR_set]
    rfl
  rw [e1, Nat.add_zero] at hput
  obtain ⟨p1, p2⟩ := hput
  have hg : lo ≤ g ∧ g < hi := by have := h2.blk (g := g) rfl; exact ⟨this.1, this.2.1⟩
  have hnew : ∀ q, x.ownBlock = some q → hi ≤ q := fun q hq => (hx.blk hq).1
  have hold : ∀ (j : Nat) (y : Value) (q : Nat), V[j]? = some y → y.ownBlock = some q → q < hi := by
    intro j y q hy hq
    have hj : j < V.length := (List.getElem?_eq_some_iff.1 hy).1
    exact ((h3 j (K[j]'(by omega)) y (List.getElem?_eq_getElem (by omega)) hy).blk hq).2.1
  refine ⟨⟨V.set i x, by simp [h1], p1.more (Nat.le_refl _) hi2', ?_, ?_, ?_⟩, p2⟩
  · intro j k' y hk' hy
    rw [List.getElem?_set] at hk' hy
    by_cases hj : i = j
    · subst hj
      rw [if_pos rfl, if_pos hik] at hk'
      rw [if_pos rfl, if_pos (by omega)] at hy
      injection hk' with hk'
      injection hy with hy
      subst hk' hy
      exact (hx.touch p2 (.inr (Nat.le_refl _))).more hle (Nat.le_refl _)
    · rw [if_neg hj] at hk' hy
      refine ((h3 j k' y hk' hy).kept (fun q hq => setRow_other_blk g _ w _ q ?_)).more (Nat.le_refl _) hi2'
      intro e
      exact h4 j y q hy hq (by rw [e]; rfl)
  · intro j y q hy hq
    rw [List.getElem?_set] at hy
    split at hy
    · rw [if_pos (by omega)] at hy
      injection hy with hy
      subst hy
      have := hnew q hq
      intro e
      simp [Value.ownBlock] at e
      omega
    · exact h4 j y q hy hq
  · intro a b y z q hab hy hz hq
    rw [List.getElem?_set] at hy hz
    split at hy
    · rw [if_pos (by omega)] at hy
      injection hy with hy
      subst hy
      split at hz
      · omega
      · intro e
        have := hold b z q hz e
        have := hnew q hq
        omega
    · split at hz
      · rw [if_pos (by omega)] at hz
        injection hz with hz
        subst hz
        intro e
        have := hold a y q hy hq
        have := hnew q e
        omega
      · exact h5 a b y z q hab hy hz hq

/-- A new web comes back. -/
def RetK (w : World) (K : List Kn) (e : Ending) (w' : World) : Prop :=
  ∃ v, e = .returned v ∧ OwnK w' w.heap.size w'.heap.size v K ∧ Below w.heap.size w w'

theorem infoK : (Try.prog.info? 36).map (fun i => (i.zero, i.size, i.bytes)) = some (some (.agg #[.bool false, .bool false, .slice none 0 0]), 3, 32) := by kernel_rfl
def zk : Kn := ⟨false, false, []⟩
theorem ownK_zero {w : World} {lo hi n : Nat} {v : Value} (h : OwnR w lo hi 36 3 v (List.replicate n [Value.bool false, .bool false, .slice none 0 0])) : OwnK w lo hi v (List.replicate n zk) := by
  have hr : ∀ {i : Nat} {x : Value}, (List.replicate n (Value.slice none 0 0))[i]? = some x → x = .slice none 0 0 := by
    intro i x hx
    rw [List.getElem?_replicate] at hx
    split at hx
    · injection hx with hx; exact hx.symm
    · cases hx
  refine ⟨List.replicate n (.slice none 0 0), by simp, ?_, ?_, ?_, ?_⟩
  · have e : knR (List.replicate n zk) (List.replicate n (.slice none 0 0)) = List.replicate n [Value.bool false, .bool false, .slice none 0 0] := by
      simp [knR, zk]
    rw [e]
    exact h
  · intro i k x hk hx
    rw [hr hx]
    rw [List.getElem?_replicate] at hk
    split at hk
    · injection hk with hk
      subst hk
      exact ownR_nil w lo hi _ _
    · cases hk
  · intro i x q hx hq
    rw [hr hx] at hq
    simp [Value.ownBlock] at hq
  · intro i j x y q _ hx _ hq
    rw [hr hx] at hq
    simp [Value.ownBlock] at hq
theorem fill_knots (K : List Kn) (i : Nat) {k : Kn} (hk : K[i]? = some k) :
    (K.take i ++ List.replicate (K.length - i) zk).set i k = K.take (i + 1) ++ List.replicate (K.length - (i + 1)) zk := by
  have hi : i < K.length := (List.getElem?_eq_some_iff.1 hk).1
  have e1 : (K.take i).length = i := by rw [List.length_take]; omega
  have e2 : K.length - i = (K.length - (i + 1)) + 1 := by omega
  have e3 : K[i] = k := (List.getElem?_eq_some_iff.1 hk).2
  rw [List.set_append_right _ _ (by omega), e1, Nat.sub_self, e2, List.replicate_succ, List.set_cons_zero, List.take_succ_eq_append_getElem hi, List.append_assoc, e3]
  rfl
theorem fill_knot_at (K : List Kn) (i : Nat) (hi : i < K.length) : (K.take i ++ List.replicate (K.length - i) zk)[i]? = some zk := by
  have e1 : (K.take i).length = i := by rw [List.length_take]; omega
  rw [List.getElem?_append_right (by omega), e1, Nat.sub_self, List.getElem?_replicate, if_pos (by omega)]

theorem only_cell_in {lo hi g : Nat} (w : World) (k : Nat) (x : Value) (h : lo ≤ g ∧ g < hi) : OnlyIn lo hi w (w.setCell ⟨g, k, none⟩ x) :=
  ⟨rfl, rfl, rfl, by simp, fun i hi hn => Below.heap_setCell w _ _ i (by show i ≠ g; omega)⟩
theorem blk3 {w : World} {g : Nat} {a b c : Value} {t : TypeId} (h : Blk w g #[a, b, c] t) :
    (w.cell? ⟨g, 0, none⟩ = some a ∧ w.cell? ⟨g, 1, none⟩ = some b ∧ w.cell? ⟨g, 2, none⟩ = some c) ∧ w.frozen? ⟨g, 0, none⟩ = false ∧ w.frozen? ⟨g, 1, none⟩ = false ∧ w.frozen? ⟨g, 2, none⟩ = false :=
  ⟨⟨h.cell 0, h.cell 1, h.cell 2⟩, h.free 0, h.free 1, h.free 2⟩

set_option maxHeartbeats 1000000 in
theorem toKnot (w : World) {lo hi : Nat} {t r : Bool} {x : Value} {L : List Int} (h : RdR w lo hi 1 x (intR L)) (hL : L.length ≤ 1048576) :
    Calls Try.prog 41 #[.agg #[.bool t, .bool r, x]] w (fun e w' => ∃ y, e = .returned (.agg #[.bool t, .bool r, y]) ∧ OwnR w' w.heap.size w'.heap.size 2 1 y (intR L) ∧ Below w.heap.size w w') := by
  have HC := Lib.hid (fun (w1 : World) (hb : Below w.heap.size w w1) => toInt64S w1 (h.below hb) hL)
  obtain ⟨A, c, rfl, hc, hm, hzz⟩ := h
  clear hzz hc hm
  rw [intR_length] at HC ⊢
  obtain ⟨n, hn⟩ : ∃ n, n = L.length := ⟨_, rfl⟩
  rw [← hn] at HC ⊢
  clear hn hL
  obtain ⟨w1, hw1⟩ : ∃ w1, w1 = ((w.alloc (.cells #[.bool t, .bool r, .slice A n c] 57)).alloc (.cells #[.bool false, .bool false, .slice none 0 0] 36)).alloc (.cells #[.bool t, .bool r, .slice none 0 0] 36) := ⟨_, rfl⟩
  have HW1 := Lib.hid hw1
  have HB1 : Hid (Below w.heap.size w w1) := Lib.hid (by rw [hw1]; exact (((Below.refl _ _).alloc (Nat.le_refl _) _).alloc (by simp) _).alloc (by simp; omega) _)
  have HS1 : Hid (w1.heap.size = w.heap.size + 3) := Lib.hid (by rw [hw1]; simp)
  have HK1 : Hid (Blk w1 (w.heap.size + 1) #[.bool false, .bool false, .slice none 0 0] 36) := Lib.hid (by
    rw [hw1]
    have := (Blk.new (w.alloc (.cells #[.bool t, .bool r, .slice A n c] 57)) #[.bool false, .bool false, .slice none 0 0] 36).more (.cells #[.bool t, .bool r, .slice none 0 0] 36)
    simpa using this)
  have HO1 : Hid (Blk w1 (w.heap.size + 1 + 1) #[.bool t, .bool r, .slice none 0 0] 36) := Lib.hid (by
    rw [hw1]
    have := Blk.new ((w.alloc (.cells #[.bool t, .bool r, .slice A n c] 57)).alloc (.cells #[.bool false, .bool false, .slice none 0 0] 36)) #[.bool t, .bool r, .slice none 0 0] 36
    simpa using this)
  clear hw1
  go_enter Try.func41, Try.ntmps41
  go_wp2_with fail
  rw [← HW1.out]
  refine (HC.out w1 HB1.out).mono ?_
  rintro e w2 ⟨y, rfl, ho2, hb2⟩
  obtain ⟨Ay, ny, cy, rfl⟩ := ho2.form
  have HO2 := Lib.hid ho2
  have HB2 := Lib.hid (below_then HB1.out hb2 (Nat.le_refl _))
  obtain ⟨⟨c0, c1, c2⟩, f0, f1, f2⟩ := blk3 (HK1.out.below hb2)
  obtain ⟨⟨d0, d1, d2⟩, e0, e1, e2⟩ := blk3 (HO1.out.below hb2)
  clear ho2 hb2
  go_wp2
  refine bodyPost_ret (v := .agg #[.bool t, .bool r, .slice Ay ny cy]) (by simp [results, Try.results41, go_sem, c0, c1, c2]) rfl ?_
  have ht := (((only_cell_in (lo := w.heap.size) (hi := w1.heap.size) (g := w.heap.size + 1 + 1) w2 2 (.slice Ay ny cy) (by have := HS1.out; omega)).trans (only_cell_in (g := w.heap.size + 1) _ 0 (.bool t) (by have := HS1.out; omega))).trans (only_cell_in (g := w.heap.size + 1) _ 1 (.bool r) (by have := HS1.out; omega))).trans (only_cell_in (g := w.heap.size + 1) _ 2 (.slice Ay ny cy) (by have := HS1.out; omega))
  exact ⟨_, rfl, (HO2.out.touch ht (.inr (Nat.le_refl _))).more HB1.out.size ht.size, below_touch HB2.out ht (Nat.le_refl _) (Nat.le_refl _)⟩

set_option maxHeartbeats 1000000 in
theorem toKnotS (w : World) {lo hi : Nat} {v : Value} {K : List Kn} (h : RdK w lo hi v K) (hK : K.length ≤ 1048576) (hF : ∀ k ∈ K, k.f.length ≤ 1048576) :
    Calls Try.prog 21 #[v] w (RetK w K) := by
  obtain ⟨i0, hi0, hz0, hz1, hz2⟩ := info_parts infoK
  have HR := Lib.hid h
  have HF := Lib.hid hF
  obtain ⟨A, c, rfl, hc, hm⟩ := h.form
  clear h hc hm hF
  obtain ⟨n, hn⟩ : ∃ n, n = K.length := ⟨_, rfl⟩
  have HN := Lib.hid hn
  rw [← hn] at HR hK ⊢
  clear hn
  go_enter Try.func21, Try.ntmps21
  go_wp2_with (at_make; refine wpList_make_full _ rfl _ _ 24 rfl w.heap.size 36 i0 (.agg #[.bool false, .bool false, .slice none 0 0]) 3 Try.underlying24 hi0 hz0 hz1 .i64 .i64 _ _ n rfl rfl rfl rfl ?_ ?_ ?_ ?_)
  · rw [hz2]; omega
  · unfold maxLen; omega
  · exact Nat.le_refl _
  · intro w1 hown hg
    have hb1 : Below w.heap.size w w1 := (Below.refl _ _).grown hg (Nat.le_refl _) (fun k hk => by cases hk)
    have ho1 : OwnK w1 w.heap.size w1.heap.size (.slice (some ⟨w.heap.size, 0, none⟩) n n) (K.take 0 ++ List.replicate (n - 0) zk) := by
      have := ownK_zero (ownR_of_make (w := w) (sz := 3) (v := .slice (some ⟨w.heap.size, 0, none⟩) n n) (z := #[.bool false, .bool false, .slice none 0 0]) rfl (by omega) hown)
      simpa using this
    have HO1 := Lib.hid ho1
    have HB1 := Lib.hid hb1
    clear hown hg ho1 hb1 hi0 hz0 hz1 hz2
    go_wp2_with fail
    go_loopw [4] (fun i wr => ∃ k : Nat, k ≤ n ∧ i = .int .i64 k ∧ Hid (OwnK wr w.heap.size wr.heap.size (.slice (some ⟨w.heap.size, 0, none⟩) n n) (K.take k ++ List.replicate (n - k) zk)) ∧ Hid (Below w.heap.size w wr))
      (fun i _ => n - (intOf i).toNat)
    case atStart => exact ⟨0, Nat.zero_le _, rfl, HO1, HB1⟩
    case round =>
      obtain ⟨k, hk, rfl, ho, hb⟩ := hrel
      by_cases hlt : k < n
      · obtain ⟨s, hs⟩ : ∃ s, K[k]? = some s := ⟨_, List.getElem?_eq_getElem (by have := HN.out; omega)⟩
        have HS := Lib.hid hs
        have HSF := Lib.hid (HF.out s (List.mem_of_getElem? hs))
        obtain ⟨b, o, x, rfl, hb1, c0, c1, c2, hx⟩ := (HR.out.below hb.out).spot hs
        have HX := Lib.hid hx
        clear hs hx
        go_wp2_with fail
        refine (toKnot _ HX.out HSF.out).mono ?_
        rintro e w2 ⟨y, rfl, hoy, hb2⟩
        obtain ⟨Ay, ny, cy, rfl⟩ := hoy.form
        have HOY := Lib.hid hoy
        have HO2 := Lib.hid (ho.out.below hb2)
        have HB2 := Lib.hid (below_then hb.out hb2 (Nat.le_refl _))
        have HS2 := Lib.hid hb2.size
        clear hb2 hoy ho
        have HFA : Hid ((K.take k ++ List.replicate (n - k) zk)[k]? = some zk) := Lib.hid (by have := fill_knot_at K k (by have := HN.out; omega); rwa [← HN.out] at this)
        have HFS : Hid ((K.take k ++ List.replicate (n - k) zk).set k s = K.take (k + 1) ++ List.replicate (n - (k + 1)) zk) := Lib.hid (by have := fill_knots K k HS.out; rwa [← HN.out] at this)
        have HPUT := Lib.hid (OwnK.put (k := s) HO2.out hb.out.size HS2.out HFA.out HOY.out)
        rw [HFS.out] at HPUT
        obtain ⟨V, hv1, hv2, hzz⟩ := HO2.out
        clear hzz
        have hvk : V[k]? = some (V[k]'(by have := (List.getElem?_eq_some_iff.1 HFA.out).1; omega)) := List.getElem?_eq_getElem _
        obtain ⟨g, hA, g1, g2, g3, hput⟩ := hv2.put (knR_get HFA.out hvk)
        injection hA with hA
        injection hA with hA
        subst hA
        obtain ⟨f0, ⟨u0, a0, d0⟩, z0⟩ := hput 0 (by omega)
        clear a0 z0
        obtain ⟨f1, ⟨u1, a1, d1⟩, z1⟩ := hput 1 (by omega)
        clear a1 z1
        obtain ⟨f2, ⟨u2, a2, d2⟩, z2⟩ := hput 2 (by omega)
        clear a2 z2
        rw [Nat.add_zero] at f0 d0
        clear HFA HFS hput hv1 hv2 hvk
        go_wp2
        go_roundw
        case rel => exact ⟨k + 1, by omega, by go_num, Lib.hid (HPUT.out.1.more (Nat.le_refl _) HPUT.out.2.size), Lib.hid (below_touch HB2.out HPUT.out.2 (Nat.le_refl _) (Nat.le_refl _))⟩
        case measure => simp [intOf]; omega
      · obtain rfl : k = n := by omega
        go_wp2
        go_ret
        refine ⟨_, rfl, ?_, hb.out⟩
        have := ho.out
        rw [Nat.sub_self, List.replicate_zero, List.append_nil, List.take_of_length_le (by have := HN.out; omega)] at this
        exact this
end Go.Proofs.Ytmipkngikimjgab.Webs
