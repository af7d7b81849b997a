/-
  The draws of chapter 6: some web of at most 16 knots, each with at most 16 references; two numbers of 64 bits.
-/
import Derived.Test.YtmipkngikimjgabDraw1
import Derived.Test.YtmipkngikimjgabHelpL
import Derived.Deep.RegionLaw
namespace Go.Proofs.Ytmipkngikimjgab.Draw6
open Go.RowKit Go.Proofs.Ytmipkngikimjgab.Mem Go.Proofs.Ytmipkngikimjgab.Pure Go.Proofs.Ytmipkngikimjgab.Help Go.Proofs.Ytmipkngikimjgab.FloorI Go.Proofs.Ytmipkngikimjgab.Cur Go.Proofs.Ytmipkngikimjgab.Seq Go.Proofs.Ytmipkngikimjgab.Ints Go.Proofs.Ytmipkngikimjgab.Webs Go.Proofs.Ytmipkngikimjgab.HelpK Go.Proofs.Ytmipkngikimjgab.HelpL
set_option linter.unusedVariables false

theorem only_below {lo hi : Nat} {a b c : World} (h : OnlyIn lo hi a b) (k : Below b.heap.size b c) : OnlyIn lo hi a c := h.trans (OnlyIn.of_below k)
set_option maxHeartbeats 400000 in
theorem l1From (w : World) {g : Nat} {C : List Int} (h : Cu w g C) {a b : Int} (ha : -1000 ≤ a ∧ a ≤ 1000000) (hb : a ≤ b ∧ b ≤ 1000000) :
    Calls Try.prog 45 #[.pointer (some ⟨g, 0, none⟩), .int .i64 a, .int .i64 b] w (RetN w g C (fun r => a ≤ r ∧ r ≤ b)) := by
  have HC := Lib.hid h
  clear h
  obtain ⟨a1, a2⟩ := ha
  obtain ⟨b1, b2⟩ := hb
  go_enter Try.func45, Try.ntmps45
  go_wp2_with fail
  refine (l1Below w HC.out (n := b - a + 1) (by unfold I64; omega)).mono ?_
  rintro e w1 ⟨r, rfl, ⟨r1, r2, r3⟩, hc1, ht1⟩
  have HC1 := Lib.hid hc1
  have HT1 := Lib.hid ht1
  have hr := r2 (by omega)
  clear hc1 ht1 r2 r3
  go_wp2_with fail
  go_ret
  exact ⟨_, rfl, by omega, HC1.out, HT1.out⟩

def RetW6 (w : World) (e : Ending) (w' : World) : Prop :=
  ∃ v, ∃ K : List Kn, e = .returned v ∧ OwnK w' w.heap.size w'.heap.size v K ∧ K.length ≤ 16 ∧ (∀ k ∈ K, k.f.length ≤ 16) ∧ Below w.heap.size w w'
def RetC2 (w : World) (e : Ending) (w' : World) : Prop :=
  ∃ n r, e = .returned (.tuple #[.int .i64 n, .int .i64 r]) ∧ I64 n ∧ I64 r ∧ Below w.heap.size w w'

set_option maxHeartbeats 2000000 in
theorem drawCostOf (w : World) {v : Value} {C : List Int} (h : Rd w 0 w.heap.size v C) (hC : C.length ≤ 4096) (hb : Byt C) :
    Calls Try.prog 12 #[v] w (RetC2 w) := by
  have HR := Lib.hid h
  clear h
  go_enter Try.func12, Try.ntmps12
  go_wp2_with fail
  refine (l1New w HR.out hC hb).mono ?_
  rintro e w1 ⟨g, rfl, hg, hc1, hb1⟩
  have HG := Lib.hid hg
  have HC1 := Lib.hid hc1
  have HB1 := Lib.hid hb1
  clear hg hc1 hb1
  go_wp2_with fail
  refine (l1Num _ HC1.out (m := 200) (by omega) (by omega)).mono ?_
  rintro e w2 ⟨n, rfl, hn, hc2, ht2⟩
  have HN := Lib.hid hn
  have HC2 := Lib.hid hc2
  have HT2 := Lib.hid ht2
  clear hn hc2 ht2 HC1
  go_wp2_with fail
  refine (l1Num _ HC2.out (m := 6) (by omega) (by omega)).mono ?_
  rintro e w3 ⟨r, rfl, hr, hc3, ht3⟩
  have HRR := Lib.hid hr
  have HT3 := Lib.hid (HT2.out.trans ht3)
  clear hr hc3 ht3
  go_wp2
  go_ret2
  exact ⟨_, _, rfl, HN.out, HRR.out, below_cur HB1.out HT3.out HG.out (Nat.le_refl _)⟩

/-- A web of the call's own, a cursor at g. -/
structure D6 (w : World) (g : Nat) (C : List Int) (v : Value) (K : List Kn) (wr : World) : Prop where
  own : OwnK wr w.heap.size wr.heap.size v K
  cu : Cu wr g C
  only : OnlyIn g (g + 1) w wr
  lt : g < w.heap.size
section
variable {w wr w2 : World} {g : Nat} {C : List Int} {v : Value} {K : List Kn}
theorem D6.cur (h : Hid (D6 w g C v K wr)) (hc : Cu w2 g C) (ht : OnlyIn g (g + 1) wr w2) : Hid (D6 w g C v K w2) :=
  Lib.hid ⟨(h.out.own.touch ht (.inr h.out.lt)).more (Nat.le_refl _) ht.size, hc, h.out.only.trans ht, h.out.lt⟩
theorem D6.grow (h : Hid (D6 w g C v K wr)) (hb : Below wr.heap.size wr w2) : Hid (D6 w g C v K w2) :=
  Lib.hid ⟨(h.out.own.below hb).more (Nat.le_refl _) hb.size, h.out.cu.below hb, only_below h.out.only hb, h.out.lt⟩
theorem D6.drew (h : Hid (D6 w g C v K wr)) : Hid (D6 w g C v K wr.drew) := D6.grow h (below_drew wr)
theorem D6.turn {v2 : Value} {K2 : List Kn} (h : Hid (D6 w g C v K wr)) (ho : OwnK w2 w.heap.size w2.heap.size v2 K2) (ht : OnlyIn w.heap.size wr.heap.size wr w2) : Hid (D6 w g C v2 K2 w2) :=
  Lib.hid ⟨ho, h.out.cu.touch ht h.out.lt, only_new h.out.only ht (Nat.le_refl _), h.out.lt⟩
/-- One flag is written. -/
theorem D6.flag {gg n c i j q : Nat} {k0 : Kn} (k : Kn) (u : Value) (h : Hid (D6 w g C (.slice (some ⟨gg, 0, none⟩) n c) K wr)) (hk : K[i]? = some k0) (hj : j < 3) (hf : k.f = k0.f) (hv : ∀ x : Value, [Value.bool k0.t, .bool k0.r, x].set j u = [Value.bool k.t, .bool k.r, x]) (hq : q = i * 3 + j) :
    Hid (D6 w g C (.slice (some ⟨gg, 0, none⟩) n c) (K.set i k) (wr.setCell ⟨gg, q, none⟩ u)) := by
  obtain ⟨p1, p2⟩ := HelpL.flag h.out.own hk hj hf hv hq
  exact D6.turn h (p1.more (Nat.le_refl _) p2.size) p2
end

/-- One knot of one's own: its cells, its references, and that another row may be laid in their place. -/
theorem swap {w : World} {lo hi gg n c i : Nat} {K : List Kn} {k : Kn} (h : OwnK w lo hi (.slice (some ⟨gg, 0, none⟩) n c) K) (hk : K[i]? = some k) :
    ∃ x, lo ≤ gg ∧ gg < hi ∧ gg < w.heap.size ∧ w.cell? ⟨gg, i * 3 + 2, none⟩ = some x ∧ w.frozen? ⟨gg, i * 3 + 2, none⟩ = false ∧ OwnR w lo hi 2 1 x (intR k.f) ∧
      ∀ (w' : World) (x' : Value) (L : List Int), hi ≤ w'.heap.size → OwnR w' lo w'.heap.size 2 1 x' (intR L) → OnlyIn lo hi w w' → (∀ q, q < w.heap.size → x.ownBlock ≠ some q → w'.heap[q]? = w.heap[q]?) → (x'.ownBlock = x.ownBlock ∨ ∀ q, x'.ownBlock = some q → hi ≤ q) →
        w'.cell? ⟨gg, i * 3 + 2, none⟩ = some x ∧ w'.frozen? ⟨gg, i * 3 + 2, none⟩ = false ∧ OwnK (w'.setCell ⟨gg, i * 3 + 2, none⟩ x') lo w'.heap.size (.slice (some ⟨gg, 0, none⟩) n c) (K.set i ⟨k.t, k.r, L⟩) ∧ OnlyIn lo hi w (w'.setCell ⟨gg, i * 3 + 2, none⟩ x') := by
  obtain ⟨V, h1, h2, h3, h4, h5⟩ := h
  have hik : i < K.length := (List.getElem?_eq_some_iff.1 hk).1
  have hV : V[i]? = some (V[i]'(by omega)) := List.getElem?_eq_getElem (by omega)
  obtain ⟨g', hA, g1, g2, g3, hput⟩ := h2.put (knR_get hk hV)
  injection hA with hA
  injection hA with hA
  subst hA
  obtain ⟨f2, ⟨u2, a2, d2⟩, _⟩ := hput 2 (by omega)
  simp at a2
  subst a2
  have hx := h3 i k _ hk hV
  have hxg : ∀ q, (V[i]'(by omega)).ownBlock = some q → q ≠ gg := fun q hq e => h4 i _ q hV hq (by rw [e]; rfl)
  refine ⟨V[i]'(by omega), g1, g2, g3, d2, f2, hx, fun w' x' L hle hx' ht hb ha => ?_⟩
  have hgg : w'.heap[gg]? = w.heap[gg]? := hb gg g3 (fun e => hxg gg e rfl)
  have h2' : OwnR w' lo hi 36 3 (.slice (some ⟨gg, 0, none⟩) n c) (knR K V) := h2.kept (fun q hq => by
    simp [Value.ownBlock] at hq
    subst hq
    exact hgg)
  obtain ⟨g', hA, _, _, _, hput'⟩ := h2'.put (knR_get hk hV)
  injection hA with hA
  injection hA with hA
  subst hA
  obtain ⟨f2', ⟨u2, a2, d2'⟩, hs'⟩ := hput' 2 (by omega)
  simp at a2
  subst a2
  obtain ⟨p1, p2⟩ := hs' x'
  have hold : ∀ (j : Nat) (y : Value) (q : Nat), V[j]? = some y → y.ownBlock = some q → q < hi ∧ q < w.heap.size := by
    intro j y q hy hq
    have hj : j < V.length := (List.getElem?_eq_some_iff.1 hy).1
    have := (h3 j (K[j]'(by omega)) y (List.getElem?_eq_getElem (by omega)) hy).blk hq
    exact ⟨this.2.1, this.2.2.1⟩
  have hxg' : ∀ q, x'.ownBlock = some q → q ≠ gg := fun q hq => by
    rcases ha with e | e
    · rw [e] at hq; exact hxg q hq
    · have := e q hq; omega
  refine ⟨d2', f2', ⟨V.set i x', by simp [h1], ?_, ?_, ?_, ?_⟩, ht.trans (only_cell_in w' _ _ ⟨g1, g2⟩)⟩
  · have e1 : (knR K V).set i ([Value.bool k.t, .bool k.r, V[i]'(by omega)].set 2 x') = knR (K.set i ⟨k.t, k.r, L⟩) (V.set i x') := by
      rw [← knR_set]
      rfl
    rw [e1] at p1
    exact p1.more (Nat.le_refl _) hle
  · intro j k' y hk' hy
    rw [List.getElem?_set] at hk' hy
    by_cases hj : i = j
    · subst hj
      rw [if_pos rfl, if_pos hik] at hk'
      rw [if_pos rfl, if_pos (by omega)] at hy
      injection hk' with hk'
      injection hy with hy
      subst hk' hy
      exact hx'.kept (fun q hq => Below.heap_setCell w' _ _ q (hxg' q hq))
    · rw [if_neg hj] at hk' hy
      refine ((h3 j k' y hk' hy).kept (fun q hq => ?_)).more (Nat.le_refl _) hle
      rw [Below.heap_setCell w' _ _ q (fun e => h4 j y q hy hq (by
        have e' : q = gg := e
        rw [e']; rfl))]
      exact hb q (hold j y q hy hq).2 (fun e => h5 i j _ y q hj hV hy e hq)
  · intro j y q hy hq
    rw [List.getElem?_set] at hy
    split at hy
    · rw [if_pos (by omega)] at hy
      injection hy with hy
      subst hy
      intro e
      simp [Value.ownBlock] at e
      exact hxg' q hq e.symm
    · exact h4 j y q hy hq
  · intro a b y z q hab hy hz hq
    rw [List.getElem?_set] at hy hz
    split at hy
    · rename_i hia
      rw [if_pos (by omega)] at hy
      injection hy with hy
      subst hy
      split at hz
      · omega
      · intro e
        rcases ha with e2 | e2
        · rw [e2] at hq
          exact h5 i b _ z q (by omega) hV hz hq e
        · have := e2 q hq
          have := (hold b z q hz e).1
          omega
    · split at hz
      · rename_i hib
        rw [if_pos (by omega)] at hz
        injection hz with hz
        subst hz
        intro e
        rcases ha with e2 | e2
        · rw [e2] at e
          exact h5 i a _ y q (by omega) hV hy e hq
        · have := e2 q e
          have := (hold a y q hy hq).1
          omega
      · exact h5 a b y z q hab hy hz hq

/-- .. one more reference. -/
theorem D6.app {w wr : World} {g gg n c i : Nat} {C : List Int} {K : List Kn} {k : Kn} (y : Int) (h : Hid (D6 w g C (.slice (some ⟨gg, 0, none⟩) n c) K wr)) (hk : K[i]? = some k) :
    ∃ A m c2, wr.cell? ⟨gg, i * 3 + 2, none⟩ = some (.slice A m c2) ∧ (wr.alloc (.cells #[.int .i64 y] 2)).cell? ⟨gg, i * 3 + 2, none⟩ = some (.slice A m c2) ∧ w.heap.size ≤ gg ∧ gg < wr.heap.size ∧
      Hid (OwnR wr w.heap.size wr.heap.size 2 1 (.slice A m c2) (intR k.f)) ∧
      ∀ (w9 : World) (x' : Value), OwnR w9 w.heap.size w9.heap.size 2 1 x' (intR k.f ++ [[.int .i64 y]]) → (wr.alloc (.cells #[.int .i64 y] 2)).grownBy w9 (Value.slice A m c2).ownBlock → (x'.ownBlock = (Value.slice A m c2).ownBlock ∨ x'.ownBlock = some (wr.alloc (.cells #[.int .i64 y] 2)).heap.size) →
        w9.cell? ⟨gg, i * 3 + 2, none⟩ = some (.slice A m c2) ∧ w9.frozen? ⟨gg, i * 3 + 2, none⟩ = false ∧ Hid (D6 w g C (.slice (some ⟨gg, 0, none⟩) n c) (K.set i ⟨k.t, k.r, k.f ++ [y]⟩) (w9.setCell ⟨gg, i * 3 + 2, none⟩ x')) := by
  obtain ⟨x, g1, g2, g3, c2, f2, hx, hs⟩ := swap h.out.own hk
  obtain ⟨A, m, c3, rfl⟩ := hx.form
  have hba : Below wr.heap.size wr (wr.alloc (.cells #[.int .i64 y] 2)) := (Below.refl _ _).alloc (Nat.le_refl _) _
  refine ⟨A, m, c3, c2, (hba.cell g3).trans c2, g1, g2, Lib.hid hx, fun w9 x' ho hg ha => ?_⟩
  have ht : OnlyIn w.heap.size wr.heap.size wr w9 := (OnlyIn.of_below hba).trans (only_grown hg (fun q hq => ⟨(hx.blk hq).1, (hx.blk hq).2.1⟩))
  have hs9 := hs w9 x' (k.f ++ [y]) ht.size (by
      have e : intR (k.f ++ [y]) = intR k.f ++ [[.int .i64 y]] := by simp [intR]
      rw [e]; exact ho) ht (fun q hq hne => by
      rw [hg.block q (Nat.lt_of_lt_of_le hq hba.size) (fun e => hne e.symm)]
      exact hba.block q hq) (by
      rcases ha with e | e
      · exact .inl e
      · exact .inr (fun q hq => by rw [e] at hq; injection hq with hq; have := hba.size; omega))
  refine ⟨hs9.1, hs9.2.1, D6.turn h (hs9.2.2.1.more (Nat.le_refl _) (by simp)) ?_⟩
  exact hs9.2.2.2

theorem new_cell1 (w : World) (y : Int) : ∀ q u, ([Value.int .i64 y])[q]? = some u → (w.alloc (.cells #[.int .i64 y] 2)).cell? ⟨w.heap.size, q, none⟩ = some u := fun q u hu => by
  have h1 := (Blk.new w #[.int .i64 y] 2).cell q
  rw [h1]
  simpa using hu
theorem D6.cell6 {w wr w2 : World} {g gg o : Nat} {C : List Int} {K : List Kn} {v x : Value} (h : Hid (D6 w g C v K wr)) (ht : OnlyIn g (g + 1) wr.drew w2) (h1 : w.heap.size ≤ gg) (h2 : gg < wr.heap.size) (hc : wr.cell? ⟨gg, o, none⟩ = some x) : w2.cell? ⟨gg, o, none⟩ = some x := by
  have := h.out.lt
  exact (World.cell?_of_block (w := wr.drew) (ht.block gg h2 (by omega))).trans hc
theorem D6.alloc6 {w wr : World} {g gg o : Nat} {C : List Int} {K : List Kn} {v x : Value} (y : Int) (h : Hid (D6 w g C v K wr)) (hc : wr.cell? ⟨gg, o, none⟩ = some x) : (wr.alloc (.cells #[.int .i64 y] 2)).cell? ⟨gg, o, none⟩ = some x := by
  rw [World.cell?_alloc_some _ _ _ (by rw [hc]; rfl)]
  exact hc
/-- .. one more reference, of a row that is known. -/
theorem D6.app2 {w wr : World} {g gg n c i : Nat} {C : List Int} {K : List Kn} {k : Kn} {A : Option Addr} {m c2 : Nat} (y : Int) (h : Hid (D6 w g C (.slice (some ⟨gg, 0, none⟩) n c) K wr)) (hk : K[i]? = some k) (hcell : wr.cell? ⟨gg, i * 3 + 2, none⟩ = some (.slice A m c2)) :
    Hid (OwnR wr w.heap.size wr.heap.size 2 1 (.slice A m c2) (intR k.f)) ∧
      ∀ (w9 : World) (x' : Value), OwnR w9 w.heap.size w9.heap.size 2 1 x' (intR k.f ++ [[.int .i64 y]]) → (wr.alloc (.cells #[.int .i64 y] 2)).grownBy w9 (Value.slice A m c2).ownBlock → (x'.ownBlock = (Value.slice A m c2).ownBlock ∨ x'.ownBlock = some (wr.alloc (.cells #[.int .i64 y] 2)).heap.size) →
        w9.cell? ⟨gg, i * 3 + 2, none⟩ = some (.slice A m c2) ∧ w9.frozen? ⟨gg, i * 3 + 2, none⟩ = false ∧ Hid (D6 w g C (.slice (some ⟨gg, 0, none⟩) n c) (K.set i ⟨k.t, k.r, k.f ++ [y]⟩) (w9.setCell ⟨gg, i * 3 + 2, none⟩ x')) := by
  obtain ⟨A', m', c', e1, _, _, _, hx, hs⟩ := D6.app y h hk
  rw [hcell] at e1
  injection e1 with e1
  injection e1 with e1 e2 e3
  subst e1 e2 e3
  exact ⟨hx, hs⟩
theorem step_append_r {P : Program} {w : World} {lo hi sz : Nat} {t : TypeId} {vr : Value} {R : List (List Value)} {r : List Value} {ops : Array Oper} {o : Oper} {a : Act} {K : Act → World → Prop} {Q : Exit → Act → World → Prop} {E : Prop} (hgd : o.guard = none) (s x : Operand) (T : TypeId)
    (ho : o.op = .call { callee := .builtin .append, args := #[s, x], argTypes := #[T, T] }) (z : Value) (bytes : Nat) (hu : P.underlying T = some (.slice t))
    (hinfo : (P.info? t).map (fun i => (i.zero, i.size, i.bytes)) = some (some z, sz, bytes)) (hz : z.cells.size = sz) (hsz : 0 < sz)
    (hown : OwnR w lo hi t sz vr R) (b c : Nat) (hr : r.length = sz) (hc : ∀ j u, r[j]? = some u → w.cell? ⟨b, j, none⟩ = some u) (h1 : ∀ u ∈ r, u.oneCell' = true) (hlen : (R.length + 1) * bytes ≤ 140737488355328) (hlen2 : R.length + 1 ≤ maxLen) (hlo : lo ≤ w.heap.size)
    (hs : a.eval s = vr) (hx : a.eval x = .slice (some ⟨b, 0, none⟩) 1 c)
    (h : ∀ v' w', OwnR w' lo w'.heap.size t sz v' (R ++ [r]) → OnlyIn lo hi w w' → w.grownBy w' vr.ownBlock → (v'.ownBlock = vr.ownBlock ∨ v'.ownBlock = some w.heap.size) → K (a.put o.dst v') w') :
    if Region.wanted o (yielded ops a.tmps) = true then Oper.wp P o a w K Q else E := by
  have hw : Region.wanted o (yielded ops a.tmps) = true := by simp [Region.wanted, hgd]
  rw [if_pos hw]
  obtain ⟨v', w', hrun, q1, q2, q3⟩ := run_append_r (P := P) T o.type z bytes hu hinfo hz hsz hown b c hr hc h1 hlen hlen2 hlo
  unfold Oper.wp
  simp [execOp, ho, resolve, invoke, builtin, hs, hx, hrun, Result.andThen]
  exact h v' w' q1 (only_grown q2 (fun k hk => ⟨(hown.blk hk).1, (hown.blk hk).2.1⟩)) q2 q3

/-- What each knot keeps while the web is drawn. -/
def Few (m : Nat) (K : List Kn) : Prop := ∀ k ∈ K, k.f.length ≤ m
theorem few_set {m : Nat} {K : List Kn} {k : Kn} (i : Nat) (h : Few m K) (hk : k.f.length ≤ m) : Few m (K.set i k) := fun x hx => by
  rcases List.mem_or_eq_of_mem_set hx with h1 | rfl
  · exact h x h1
  · exact hk

/-- Some new web; only the cursor has turned. -/
def RetL6 (w : World) (g : Nat) (C : List Int) (e : Ending) (w' : World) : Prop :=
  ∃ v K, e = .returned v ∧ K.length ≤ 16 ∧ Few 16 K ∧ D6 w g C v K w'

/-- Where the drawing of references is: at knot k, m more may come. -/
structure Gr (K : List Kn) (n k m : Nat) : Prop where
  len : K.length = n
  few : Few 2 K
  here : ∀ s, K[k]? = some s → s.f.length + m ≤ 2
  later : ∀ j s, k < j → K[j]? = some s → s.f.length = 0
theorem Gr.start {K : List Kn} {n k : Nat} (hl : K.length = n) (hf : Few 2 K) (hz : ∀ j s, k ≤ j → K[j]? = some s → s.f.length = 0) {m : Nat} (hm : m ≤ 2) : Gr K n k m :=
  ⟨hl, hf, fun s hs => by have := hz k s (Nat.le_refl _) hs; omega, fun j s hj hs => hz j s (by omega) hs⟩
theorem Gr.step {K : List Kn} {n k m : Nat} {s : Kn} (h : Gr K n k (m + 1)) (hs : K[k]? = some s) (y : Int) : Gr (K.set k ⟨s.t, s.r, s.f ++ [y]⟩) n k m := by
  have h1 := h.here s hs
  have hk : k < K.length := (List.getElem?_eq_some_iff.1 hs).1
  refine ⟨by rw [List.length_set]; exact h.len, few_set _ h.few (by simp; omega), fun s' hs' => ?_, fun j s' hj hs' => ?_⟩
  · rw [List.getElem?_set_self hk] at hs'
    injection hs' with hs'
    subst hs'
    simp
    omega
  · rw [List.getElem?_set_ne (by omega)] at hs'
    exact h.later j s' hj hs'
theorem few_zero_all {K : List Kn} (h : Few 0 K) : ∀ (j : Nat) (s : Kn), K[j]? = some s → s.f.length = 0 := fun j s hs => by
  have := h s (List.mem_of_getElem? hs)
  omega

set_option maxRecDepth 100000 in
set_option maxHeartbeats 8000000 in
theorem l6DrawAny (w : World) {g : Nat} {C : List Int} (h : Cu w g C) :
    Calls Try.prog 31 #[.pointer (some ⟨g, 0, none⟩)] w (RetL6 w g C) := by
  obtain ⟨i0, hi0, hz0, hz1, hz2⟩ := info_parts infoK
  obtain ⟨i1, hi1, hy0, hy1, hy2⟩ := info_parts infoI
  have HC := Lib.hid h
  have HG := Lib.hid h.lt
  clear h
  go_enter Try.func31, Try.ntmps31
  go_wp2_with fail
  refine (l1Below w HC.out (n := 7) (by unfold I64; omega)).mono ?_
  rintro e w1 ⟨a, rfl, ⟨a1, a2, _⟩, hc1, ht1⟩
  have a3 : a < 7 := a2 (by omega)
  obtain ⟨n, rfl⟩ : ∃ n : Nat, a = n := ⟨a.toNat, by omega⟩
  have hn6 : n ≤ 6 := by omega
  have HC1 := Lib.hid hc1
  have HT1 := Lib.hid ht1
  clear a1 a2 a3 hc1 ht1 HC
  go_wp2_with (at_make; refine wpList_make_full _ rfl _ _ 24 rfl w1.heap.size 36 i0 (.agg #[.bool false, .bool false, .slice none 0 0]) 3 Try.underlying24 hi0 hz0 hz1 .i64 .i64 _ _ n rfl rfl rfl rfl ?_ ?_ ?_ ?_)
  · rw [hz2]; omega
  · unfold maxLen; omega
  · exact Nat.le_refl _
  intro w2 hown hgr
  have hb2 : Below w1.heap.size w1 w2 := (Below.refl _ _).grown hgr (Nat.le_refl _) (fun k hk => by cases hk)
  have ho2 : OwnK w2 w1.heap.size w2.heap.size (.slice (some ⟨w1.heap.size, 0, none⟩) n n) (List.replicate n zk) := by
    have := ownK_zero (ownR_of_make (w := w1) (sz := 3) (v := .slice (some ⟨w1.heap.size, 0, none⟩) n n) (z := #[.bool false, .bool false, .slice none 0 0]) rfl (by omega) hown)
    simpa using this
  have HD2 : Hid (D6 w g C (.slice (some ⟨w1.heap.size, 0, none⟩) n n) (List.replicate n zk) w2) := Lib.hid ⟨ho2.more HT1.out.size (Nat.le_refl _), HC1.out.below hb2, only_below HT1.out hb2, HG.out⟩
  have HF2 : Hid (Few 0 (List.replicate n zk)) := Lib.hid (fun s hs => by rw [(List.mem_replicate.1 hs).2]; simp [zk])
  obtain ⟨gg, hgg⟩ : ∃ gg, gg = w1.heap.size := ⟨_, rfl⟩
  rw [← hgg] at HD2 ⊢
  clear hown hgr hb2 ho2 HC1 HT1 hgg hi0 hz0 hz1 hz2
  go_wp2_with fail
  go_loopw [4] (fun iv wr => ∃ (k : Nat) (K : List Kn), k ≤ n ∧ iv = .int .i64 k ∧ Hid (K.length = n) ∧ Hid (Few 0 K) ∧ Hid (D6 w g C (.slice (some ⟨gg, 0, none⟩) n n) K wr)) (fun iv _ => n - (intOf iv).toNat)
  case atStart => exact ⟨0, _, Nat.zero_le _, rfl, Lib.hid (by simp), HF2, HD2⟩
  case round =>
    obtain ⟨k, K, hk, rfl, hl, hf, hd⟩ := hrel
    clear HD2 HF2
    by_cases hlt : k < n
    · obtain ⟨s, hs⟩ : ∃ s, K[k]? = some s := ⟨_, List.getElem?_eq_getElem (by have := hl.out; omega)⟩
      have HS := Lib.hid hs
      have HSF := Lib.hid (hf.out s (List.mem_of_getElem? hs))
      have hkK : Hid (k < K.length) := Lib.hid (by have := hl.out; omega)
      clear hs
      obtain ⟨t, r, f⟩ := s
      go_wp2_with fail
      refine (l1Once _ hd.out.cu (n := 4) (by unfold I64; omega)).mono ?_
      rintro e w3 ⟨b, rfl, hc3, ht3⟩
      have HD3 := D6.cur hd hc3 ht3
      clear hc3 ht3 hd
      cases b

      · obtain ⟨gg', x, hA, _, _, _, ⟨d0, d1, d2⟩, ⟨f0, f1⟩, _, _⟩ := own_spot HD3.out.own HS.out
        injection hA with hA
        injection hA with hA
        subst hA
        have HD4 := D6.flag (j := 0) (q := k * 3) (k0 := ⟨t, r, f⟩) ⟨true, r, f⟩ (.bool true) HD3 HS.out (by omega) rfl (fun _ => rfl) rfl
        have HS4 : Hid ((K.set k ⟨true, r, f⟩)[k]? = some ⟨true, r, f⟩) := Lib.hid (List.getElem?_set_self hkK.out)
        obtain ⟨gg', x4, hA, _, _, _, ⟨e0, e1, e2⟩, _, _, _⟩ := own_spot HD4.out.own HS4.out
        injection hA with hA
        injection hA with hA
        subst hA
        clear d1 d2 f1 e1 e2
        go_wp2_with fail
        refine (l1Once _ HD4.out.cu (n := 3) (by unfold I64; omega)).mono ?_
        rintro e w5 ⟨b, rfl, hc5, ht5⟩
        have HD5 := D6.cur HD4 hc5 ht5
        clear hc5 ht5 HD4 d0 f0 e0
        obtain ⟨gg', x5, hA, _, _, _, ⟨d0, d1, d2⟩, ⟨f0, f1⟩, _, _⟩ := own_spot HD5.out.own HS4.out
        injection hA with hA
        injection hA with hA
        subst hA
        clear d0 d2 f0
        have HD6 := D6.flag (j := 1) (q := k * 3 + 1) (k0 := ⟨true, r, f⟩) ⟨true, b, f⟩ (.bool b) HD5 HS4.out (by omega) rfl (fun _ => rfl) rfl
        clear HD5
        go_wp2
        go_roundw
        case rel => exact ⟨k + 1, _, by omega, by go_num, Lib.hid (by rw [List.length_set, List.length_set]; exact hl.out), Lib.hid (few_set _ (few_set _ hf.out HSF.out) HSF.out), HD6⟩
        case measure => simp [intOf]; omega
      · obtain ⟨gg', x, hA, _, _, _, ⟨d0, d1, d2⟩, ⟨f0, f1⟩, _, _⟩ := own_spot HD3.out.own HS.out
        injection hA with hA
        injection hA with hA
        subst hA
        have HD4 := D6.flag (j := 0) (q := k * 3) (k0 := ⟨t, r, f⟩) ⟨false, r, f⟩ (.bool false) HD3 HS.out (by omega) rfl (fun _ => rfl) rfl
        have HS4 : Hid ((K.set k ⟨false, r, f⟩)[k]? = some ⟨false, r, f⟩) := Lib.hid (List.getElem?_set_self hkK.out)
        obtain ⟨gg', x4, hA, _, _, _, ⟨e0, e1, e2⟩, ⟨q0, q1⟩, _, _⟩ := own_spot HD4.out.own HS4.out
        injection hA with hA
        injection hA with hA
        subst hA
        clear d1 d2 f1 e2 q0
        have HD6 := D6.flag (j := 1) (q := k * 3 + 1) (k0 := ⟨false, r, f⟩) ⟨false, false, f⟩ (.bool false) HD4 HS4.out (by omega) rfl (fun _ => rfl) rfl
        clear HD4 HD3
        go_wp2
        go_roundw
        case rel => exact ⟨k + 1, _, by omega, by go_num, Lib.hid (by rw [List.length_set, List.length_set]; exact hl.out), Lib.hid (few_set _ (few_set _ hf.out HSF.out) HSF.out), HD6⟩
        case measure => simp [intOf]; omega
    · obtain rfl : k = n := by omega
      go_wp2_with fail
      go_loopw [5] (fun iv wr => ∃ (i : Nat) (K : List Kn), i ≤ k ∧ iv = .int .i64 i ∧ Hid (K.length = k) ∧ Hid (Few 2 K) ∧ Hid (∀ (j : Nat) (s : Kn), i ≤ j → K[j]? = some s → s.f.length = 0) ∧ Hid (D6 w g C (.slice (some ⟨gg, 0, none⟩) k k) K wr)) (fun iv _ => k - (intOf iv).toNat)
      case atStart => exact ⟨0, K, Nat.zero_le _, rfl, hl, Lib.hid (fun x hx => Nat.le_trans (hf.out x hx) (by omega)), Lib.hid (fun j s _ hs => few_zero_all hf.out j s hs), hd⟩
      case round =>
        obtain ⟨i, K2, hi, rfl, hl2, hf2, hz2, hd2⟩ := hrel
        clear hl hf hd
        by_cases hik : i < k
        · go_wp2_with fail
          refine (l1Below _ hd2.out.cu (n := 3) (by unfold I64; omega)).mono ?_
          rintro e w3 ⟨a, rfl, ⟨a1, a2, _⟩, hc3, ht3⟩
          have a3 : a < 3 := a2 (by omega)
          obtain ⟨m0, rfl⟩ : ∃ m : Nat, a = m := ⟨a.toNat, by omega⟩
          have hm0 : m0 ≤ 2 := by omega
          have HD3 := D6.cur hd2 hc3 ht3
          have HG3 := Lib.hid (Gr.start hl2.out hf2.out hz2.out hm0)
          clear a1 a2 a3 hc3 ht3 hd2 hz2 hf2
          go_wp2_with fail
          go_loopw [6] (fun nv wr => ∃ (m : Nat) (K : List Kn), nv = .int .i64 m ∧ m ≤ 2 ∧ Hid (Gr K k i m) ∧ Hid (D6 w g C (.slice (some ⟨gg, 0, none⟩) k k) K wr)) (fun nv _ => (intOf nv).toNat)
          case atStart => exact ⟨m0, K2, rfl, hm0, HG3, HD3⟩
          case round =>
            obtain ⟨m, K, rfl, hm, hgr, hd⟩ := hrel
            clear HD3 HG3
            obtain ⟨s, hs⟩ : ∃ s, K[i]? = some s := ⟨_, List.getElem?_eq_getElem (by have := hgr.out.len; omega)⟩
            have HS := Lib.hid hs
            clear hs
            have HNX : Hid (Few 2 K ∧ K.length = k ∧ ∀ (j : Nat) (s : Kn), i + 1 ≤ j → K[j]? = some s → s.f.length = 0) := Lib.hid ⟨hgr.out.few, hgr.out.len, fun j s hj hs => hgr.out.later j s (by omega) hs⟩
            by_cases hm0' : 0 < m
            · obtain ⟨m, rfl⟩ : ∃ q, m = q + 1 := ⟨m - 1, by omega⟩
              obtain ⟨t, r, f⟩ := s
              obtain ⟨gg', x, hA, _, _, _, ⟨d0, d1, d2⟩, _, _, _⟩ := own_spot hd.out.own HS.out
              injection hA with hA
              injection hA with hA
              subst hA
              clear d1 d2
              dsimp only at d0
              cases t
              · go_wp2_with fail
                go_roundw
                case rel => exact ⟨i + 1, K, by omega, by go_num, Lib.hid HNX.out.2.1, Lib.hid HNX.out.1, Lib.hid HNX.out.2.2, hd⟩
                case measure => simp [intOf]; omega
              · go_wp2_with fail
                refine (l1From _ hd.out.cu (a := -1) (b := (k : Int) - 1) (by omega) (by omega)).mono ?_
                rintro e w4 ⟨y, rfl, ⟨y1, y2⟩, hc4, ht4⟩
                have HD4 := D6.cur hd hc4 ht4
                clear hc4 ht4 hd d0
                by_cases hy0 : 0 ≤ y
                · obtain ⟨yi, rfl⟩ : ∃ q : Nat, y = q := ⟨y.toNat, by omega⟩
                  have hyk : yi < k := by omega
                  obtain ⟨s2, hs2⟩ : ∃ s, K[yi]? = some s := ⟨_, List.getElem?_eq_getElem (by have := hgr.out.len; omega)⟩
                  obtain ⟨gg', x2, hA, _, _, _, ⟨d0, d1, d2⟩, _, _, _⟩ := own_spot HD4.out.own hs2
                  injection hA with hA
                  injection hA with hA
                  subst hA
                  clear d1 d2 hs2
                  obtain ⟨t2, r2, f2⟩ := s2
                  dsimp only at d0
                  cases t2
                  · have HGX := Lib.hid (Gr.step hgr.out HS.out (-1))
                    obtain ⟨A, l, c2, c9, cA, g1, g2, HX, hfin⟩ := D6.app (-1) HD4 HS.out
                    dsimp only at HX hfin HGX
                    have HFIN := Lib.hid hfin
                    have HO9 : Hid (OwnR (w4.alloc (.cells #[.int .i64 (-1)] 2)) w.heap.size w4.heap.size 2 1 (.slice A l c2) (intR f)) := Lib.hid (HX.out.below ((Below.refl _ _).alloc (Nat.le_refl _) _))
                    have HWL : Hid (w.heap.size ≤ (w4.alloc (.cells #[.int .i64 (-1)] 2)).heap.size) := Lib.hid (Nat.le_trans HD4.out.only.size ((Below.refl _ _).alloc (Nat.le_refl _) _).size)
                    have HCC : Hid (∀ q u, ([Value.int .i64 (-1)])[q]? = some u → (w4.alloc (.cells #[.int .i64 (-1)] 2)).cell? ⟨w4.heap.size, q, none⟩ = some u) := Lib.hid (fun q u hu => by
                      have h1 := (Blk.new w4 #[.int .i64 (-1)] 2).cell q
                      rw [h1]
                      simpa using hu)
                    have HLE : Hid ((intR f).length ≤ 2) := Lib.hid (by rw [intR_length]; have := hgr.out.few _ (List.mem_of_getElem? HS.out); exact this)
                    clear hfin
                    go_wp2_with (
                      at_builtin
                      refine wpList_append_r rfl _ _ _ rfl _ 8 Try.underlying31 infoI rfl (by omega) HO9.out w4.heap.size 1 (r := [.int .i64 (-1)]) rfl HCC.out (by simp [Value.oneCell']) (by have := HLE.out; omega) (by have := HLE.out; unfold maxLen; omega) HWL.out rfl rfl ?_
                      intro v' w9 hO9 hT9 hG9 hA9
                      obtain ⟨A9, l9, k9, rfl⟩ := hO9.form
                      obtain ⟨z0, z1, HD9⟩ := HFIN.out w9 _ hO9 hG9 hA9
                      clear hO9 hT9 hG9 hA9)
                    exact ⟨⟨m, _, by go_num, by omega, HGX, HD9⟩, by simp [intOf]⟩
                  · have HGX := Lib.hid (Gr.step hgr.out HS.out ((yi : Int)))
                    obtain ⟨A, l, c2, c9, cA, g1, g2, HX, hfin⟩ := D6.app ((yi : Int)) HD4 HS.out
                    dsimp only at HX hfin HGX
                    have HFIN := Lib.hid hfin
                    have HO9 : Hid (OwnR (w4.alloc (.cells #[.int .i64 ((yi : Int))] 2)) w.heap.size w4.heap.size 2 1 (.slice A l c2) (intR f)) := Lib.hid (HX.out.below ((Below.refl _ _).alloc (Nat.le_refl _) _))
                    have HWL : Hid (w.heap.size ≤ (w4.alloc (.cells #[.int .i64 ((yi : Int))] 2)).heap.size) := Lib.hid (Nat.le_trans HD4.out.only.size ((Below.refl _ _).alloc (Nat.le_refl _) _).size)
                    have HCC : Hid (∀ q u, ([Value.int .i64 ((yi : Int))])[q]? = some u → (w4.alloc (.cells #[.int .i64 ((yi : Int))] 2)).cell? ⟨w4.heap.size, q, none⟩ = some u) := Lib.hid (fun q u hu => by
                      have h1 := (Blk.new w4 #[.int .i64 ((yi : Int))] 2).cell q
                      rw [h1]
                      simpa using hu)
                    have HLE : Hid ((intR f).length ≤ 2) := Lib.hid (by rw [intR_length]; have := hgr.out.few _ (List.mem_of_getElem? HS.out); exact this)
                    clear hfin
                    go_wp2_with (
                      at_builtin
                      refine wpList_append_r rfl _ _ _ rfl _ 8 Try.underlying31 infoI rfl (by omega) HO9.out w4.heap.size 1 (r := [.int .i64 ((yi : Int))]) rfl HCC.out (by simp [Value.oneCell']) (by have := HLE.out; omega) (by have := HLE.out; unfold maxLen; omega) HWL.out rfl rfl ?_
                      intro v' w9 hO9 hT9 hG9 hA9
                      obtain ⟨A9, l9, k9, rfl⟩ := hO9.form
                      obtain ⟨z0, z1, HD9⟩ := HFIN.out w9 _ hO9 hG9 hA9
                      clear hO9 hT9 hG9 hA9)
                    exact ⟨⟨m, _, by go_num, by omega, HGX, HD9⟩, by simp [intOf]⟩
                · have HGX := Lib.hid (Gr.step hgr.out HS.out (y))
                  obtain ⟨A, l, c2, c9, cA, g1, g2, HX, hfin⟩ := D6.app (y) HD4 HS.out
                  dsimp only at HX hfin HGX
                  have HFIN := Lib.hid hfin
                  have HO9 : Hid (OwnR (w4.alloc (.cells #[.int .i64 (y)] 2)) w.heap.size w4.heap.size 2 1 (.slice A l c2) (intR f)) := Lib.hid (HX.out.below ((Below.refl _ _).alloc (Nat.le_refl _) _))
                  have HWL : Hid (w.heap.size ≤ (w4.alloc (.cells #[.int .i64 (y)] 2)).heap.size) := Lib.hid (Nat.le_trans HD4.out.only.size ((Below.refl _ _).alloc (Nat.le_refl _) _).size)
                  have HCC : Hid (∀ q u, ([Value.int .i64 (y)])[q]? = some u → (w4.alloc (.cells #[.int .i64 (y)] 2)).cell? ⟨w4.heap.size, q, none⟩ = some u) := Lib.hid (fun q u hu => by
                    have h1 := (Blk.new w4 #[.int .i64 (y)] 2).cell q
                    rw [h1]
                    simpa using hu)
                  have HLE : Hid ((intR f).length ≤ 2) := Lib.hid (by rw [intR_length]; have := hgr.out.few _ (List.mem_of_getElem? HS.out); exact this)
                  clear hfin
                  go_wp2_with (
                    at_builtin
                    refine wpList_append_r rfl _ _ _ rfl _ 8 Try.underlying31 infoI rfl (by omega) HO9.out w4.heap.size 1 (r := [.int .i64 (y)]) rfl HCC.out (by simp [Value.oneCell']) (by have := HLE.out; omega) (by have := HLE.out; unfold maxLen; omega) HWL.out rfl rfl ?_
                    intro v' w9 hO9 hT9 hG9 hA9
                    obtain ⟨A9, l9, k9, rfl⟩ := hO9.form
                    obtain ⟨z0, z1, HD9⟩ := HFIN.out w9 _ hO9 hG9 hA9
                    clear hO9 hT9 hG9 hA9)
                  exact ⟨⟨m, _, by go_num, by omega, HGX, HD9⟩, by simp [intOf]⟩
            · obtain rfl : m = 0 := by omega
              go_wp2_with fail
              go_roundw
              case rel => exact ⟨i + 1, K, by omega, by go_num, Lib.hid HNX.out.2.1, Lib.hid HNX.out.1, Lib.hid HNX.out.2.2, hd⟩
              case measure => simp [intOf]; omega
        · obtain rfl : i = k := by omega
          go_wp2_with fail
          refine (l1Once _ hd2.out.cu (n := 6) (by unfold I64; omega)).mono ?_
          rintro e w3 ⟨b, rfl, hc3, ht3⟩
          have HD3 := D6.cur hd2 hc3 ht3
          clear hc3 ht3 hd2 hz2
          cases b
          · go_wp2
            go_ret
            exact ⟨_, K2, rfl, by have := hl2.out; omega, fun x hx => Nat.le_trans (hf2.out x hx) (by omega), HD3.out⟩
          · by_cases h0 : i = 0
            · subst h0
              go_wp2
              go_ret
              exact ⟨_, K2, rfl, by have := hl2.out; omega, fun x hx => Nat.le_trans (hf2.out x hx) (by omega), HD3.out⟩
            · have hpos : 0 < i := by omega
              clear h0
              go_wp2_with fail
              refine (l1Below _ HD3.out.cu (n := (i : Int)) (by unfold I64; omega)).mono ?_
              rintro e w4 ⟨y, rfl, ⟨y1, y2, _⟩, hc4, ht4⟩
              obtain ⟨j, rfl⟩ : ∃ q : Nat, y = q := ⟨y.toNat, by omega⟩
              have hj : j < i := by have := y2 (by omega); omega
              have HD4 := D6.cur HD3 hc4 ht4
              obtain ⟨s, hs⟩ : ∃ s, K2[j]? = some s := ⟨_, List.getElem?_eq_getElem (by have := hl2.out; omega)⟩
              have HS := Lib.hid hs
              have HSF := Lib.hid (hf2.out s (List.mem_of_getElem? hs))
              clear hc4 ht4 y1 y2 HD3 hs
              go_wp2_with fail
              refine (l1Below _ HD4.out.cu (n := 3) (by unfold I64; omega)).mono ?_
              rintro e w5 ⟨q, rfl, ⟨q1, q2, _⟩, hc5, ht5⟩
              have HD5 := D6.cur HD4 hc5 ht5
              have hq : q = 0 ∨ q = 1 ∨ q = 2 := by have := q2 (by omega); omega
              clear hc5 ht5 q1 q2 HD4
              obtain ⟨t, r, f⟩ := s
              rcases hq with rfl | rfl | rfl
              · obtain ⟨gg', x, hA, _, _, _, ⟨d0, d1, d2⟩, ⟨f0, f1⟩, _, _⟩ := own_spot HD5.out.own HS.out
                injection hA with hA
                injection hA with hA
                subst hA
                have HD6 := D6.flag (j := 0) (q := j * 3) (k0 := ⟨t, r, f⟩) ⟨!t, r, f⟩ (.bool (!t)) HD5 HS.out (by omega) rfl (fun _ => rfl) rfl
                clear d1 d2 f1
                go_wp2
                go_ret
                exact ⟨_, _, rfl, by rw [List.length_set]; have := hl2.out; omega, few_set _ (fun x hx => Nat.le_trans (hf2.out x hx) (by omega)) (Nat.le_trans HSF.out (by omega)), HD6.out⟩
              · obtain ⟨x, g1, g2, g3, cx, fx, hx, hsw⟩ := swap HD5.out.own HS.out
                obtain ⟨A, l, c2, rfl⟩ := hx.form
                have HG1 := Lib.hid g1
                have HG3 := Lib.hid g3
                have HCX := Lib.hid cx
                have cd : w5.drew.cell? ⟨gg, j * 3 + 2, none⟩ = some (.slice A l c2) := cx
                have HLE : Hid ((intR f).length ≤ 2) := Lib.hid (by rw [intR_length]; exact HSF.out)
                clear hsw hx fx cx g1 g2 g3
                go_wp2_with fail
                go_region_law (first
                  | (refine step_append_r rfl _ _ _ rfl _ 8 Try.underlying31 infoI rfl (by omega) HO9.out w6.heap.size 1 (r := [.int .i64 y]) rfl HCC.out (by simp [Value.oneCell']) (by have := HLE.out; omega) (by have := HLE.out; unfold maxLen; omega) HWL.out rfl rfl ?_
                     intro v' w9 hO9 hT9 hG9 hA9
                     obtain ⟨A9, l9, k9, rfl⟩ := hO9.form
                     obtain ⟨z0, z1, HD9⟩ := HFIN.out w9 _ hO9 hG9 hA9
                     clear hO9 hT9 hG9 hA9)
                  | (go_simp
                     go_at_call 45
                     refine (l1From _ (D6.drew HD5).out.cu (a := -2) (b := 7) (by omega) (by omega)).mono ?_
                     rintro e w6 ⟨y, rfl, ⟨y1, y2⟩, hc6, ht6⟩
                     have HD6 := D6.cur (D6.drew HD5) hc6 ht6
                     have c6 := D6.cell6 HD5 ht6 HG1.out HG3.out HCX.out
                     have c7 := D6.alloc6 y HD6 c6
                     obtain ⟨HX, hfin⟩ := D6.app2 y HD6 HS.out c6
                     dsimp only at HX hfin
                     have HFIN := Lib.hid hfin
                     have HO9 : Hid (OwnR (w6.alloc (.cells #[.int .i64 y] 2)) w.heap.size w6.heap.size 2 1 (.slice A l c2) (intR f)) := Lib.hid (HX.out.below ((Below.refl _ _).alloc (Nat.le_refl _) _))
                     have HWL : Hid (w.heap.size ≤ (w6.alloc (.cells #[.int .i64 y] 2)).heap.size) := Lib.hid (Nat.le_trans HD6.out.only.size ((Below.refl _ _).alloc (Nat.le_refl _) _).size)
                     have HCC : Hid (∀ q u, ([Value.int .i64 y])[q]? = some u → (w6.alloc (.cells #[.int .i64 y] 2)).cell? ⟨w6.heap.size, q, none⟩ = some u) := Lib.hid (new_cell1 w6 y)
                     clear hfin hc6 ht6))
                all_goals
                  go_wp2
                  go_ret
                  exact ⟨_, _, rfl, by rw [List.length_set]; have := hl2.out; omega, few_set _ (fun x hx => Nat.le_trans (hf2.out x hx) (by omega)) (by have := HSF.out; simp at this ⊢; omega), HD9.out⟩
              · go_wp2_with fail
                refine (l1Below _ HD5.out.cu (n := 2) (by unfold I64; omega)).mono ?_
                rintro e w6 ⟨z, rfl, ⟨z1, z2, _⟩, hc6, ht6⟩
                have HD6 := D6.cur HD5 hc6 ht6
                have z3 : z < 2 := z2 (by omega)
                obtain ⟨l, hl⟩ : ∃ l : Nat, 6 + z = (l : Int) := ⟨(6 + z).toNat, by omega⟩
                have hl7 : l ≤ 7 := by omega
                obtain ⟨x, g1, g2, g3, c2, f2, hx, hsw⟩ := swap HD6.out.own HS.out
                have HSW := Lib.hid hsw
                clear hc6 ht6 HD5 z2 hx hsw f2
                go_wp2_with (at_make; refine wpList_make_full _ rfl _ _ 31 rfl w6.heap.size 2 i1 (.int .i64 0) 1 Try.underlying31 hi1 hy0 hy1 .i64 .i64 _ _ l rfl rfl rfl rfl ?_ ?_ ?_ ?_)
                · rw [hy2]; omega
                · unfold maxLen; omega
                · exact Nat.le_refl _
                · intro w7 hown hgr
                  have hb7 : Below w6.heap.size w6 w7 := (Below.refl _ _).grown hgr (Nat.le_refl _) (fun k hk => by cases hk)
                  have ho7 : OwnR w7 w6.heap.size w7.heap.size 2 1 (.slice (some ⟨w6.heap.size, 0, none⟩) l l) (intR (List.replicate l 0)) := by
                    have := ownR_of_make (w := w6) (sz := 1) (v := .slice (some ⟨w6.heap.size, 0, none⟩) l l) (z := #[.int .i64 0]) rfl (by omega) (by rw [Nat.mul_one]; exact hown)
                    simpa [intR] using this
                  obtain ⟨z0, z1', p1, p2⟩ := HSW.out w7 _ _ hb7.size (ho7.more HD6.out.only.size (Nat.le_refl _)) (OnlyIn.of_below hb7) (fun q hq _ => hb7.block q hq) (.inr (fun q hq => by simp [Value.ownBlock] at hq; omega))
                  have HD8 := D6.turn HD6 (p1.more (Nat.le_refl _) (by simp)) p2
                  clear hown hgr hb7 ho7 HD6 hl p1 p2 c2
                  go_wp2
                  go_ret
                  exact ⟨_, _, rfl, by rw [List.length_set]; have := hl2.out; omega, few_set _ (fun x hx => Nat.le_trans (hf2.out x hx) (by omega)) (by simp; omega), HD8.out⟩

set_option maxHeartbeats 2000000 in
theorem drawReached (w : World) {v : Value} {C : List Int} (h : Rd w 0 w.heap.size v C) (hC : C.length ≤ 4096) (hb : Byt C) :
    Calls Try.prog 9 #[v] w (RetW6 w) := by
  have HR := Lib.hid h
  clear h
  go_enter Try.func9, Try.ntmps9
  go_wp2_with fail
  refine (l1New w HR.out hC hb).mono ?_
  rintro e w1 ⟨g, rfl, hg, hc1, hb1⟩
  have HG := Lib.hid hg
  have HC1 := Lib.hid hc1
  have HB1 := Lib.hid hb1
  clear hg hc1 hb1
  go_wp2_with fail
  refine (l6DrawAny w1 HC1.out).mono ?_
  rintro e w2 ⟨v2, K, rfl, hl, hf, hd⟩
  have HD2 := Lib.hid hd
  have HL := Lib.hid hl
  have HF := Lib.hid hf
  clear hd hl hf HC1
  go_wp2
  go_ret
  exact ⟨_, K, rfl, HD2.out.own.more HB1.out.size (Nat.le_refl _), HL.out, HF.out, below_cur HB1.out HD2.out.only HG.out (Nat.le_refl _)⟩

end Go.Proofs.Ytmipkngikimjgab.Draw6
