/-
  The program's WalkOf: the places of a walk, in a row of its own. Lengths to 1048576, numbers of 64 bits.
-/
import Derived.Test.YtamgikcoknkghabWalkIt
import Derived.Test.YtamgikcoknkghabBareI
import Derived.Test.YtamgikcoknkghabSeq
import Derived.RangeFuncBox
namespace Go.Proofs.Ytamgikcoknkghab.WalkI
open Go.RowKit Go.Shelf Go.Proofs.Ytamgikcoknkghab.Mem Go.Proofs.Ytamgikcoknkghab.Pure Go.Proofs.Ytamgikcoknkghab.Help Go.Proofs.Ytamgikcoknkghab.FloorI Go.Proofs.Ytamgikcoknkghab.HeadI Go.Proofs.Ytamgikcoknkghab.Range Go.Proofs.Ytamgikcoknkghab.Seq
set_option linter.unusedVariables false
attribute [local go_sem] Oper.semAt_some

def plC (p : Pl) : List Value := [.int .i64 p.a, .int .i64 p.h.s, .int .i64 p.h.o, .int .i64 p.h.l, .int .i64 p.h.r]
theorem infoPl : (Try.prog.info? 46).map (fun i => (i.zero, i.size, i.bytes)) = some (some (.agg #[.int .i64 0, .int .i64 0, .int .i64 0, .int .i64 0, .int .i64 0]), 5, 40) := by kernel_rfl

/-- A new row of places comes back, and a bool. -/
def RetPs (w : World) (P : List Pl) (b : Bool) (e : Ending) (w' : World) : Prop :=
  ∃ v, e = .returned (.tuple #[v, .bool b]) ∧ OwnR w' w.heap.size w'.heap.size 46 5 v (P.map plC) ∧ Below w.heap.size w w'

theorem rd_all {w : World} {lo hi : Nat} {v : Value} {L : List Int} (h : Rd w lo hi v L) : Rd w 0 w.heap.size v L := by
  obtain ⟨A, c, hv, hc, hm, hcell⟩ := h
  refine ⟨A, c, hv, hc, hm, fun k hkl => ?_⟩
  obtain ⟨b, o, hA, h1, h2, h3, h4⟩ := hcell k hkl
  exact ⟨b, o, hA, Nat.zero_le _, h3, h3, h4⟩

/-- What the caller holds between two rounds. -/
structure Inv (w : World) (bP bE : Nat) (K : Nat → Prop) (f : Int) (b : Nat) (pre : List Pl) (v : Value) (W : World) : Prop where
  box : Boxed W bP 40 v
  row : OwnR W w.heap.size W.heap.size 46 5 v (pre.map plC)
  ebox : Boxed W bE 2 (.int .i64 (endOf f pre))
  far : ∀ g, v.ownBlock = some g → g ≠ b ∧ ¬ K g
  below : Below w.heap.size w W

section
variable {w W W' : World} {bP bE b : Nat} {K : Nat → Prop} {f : Int} {pre : List Pl} {v : Value}
theorem Inv.kept (h : Inv w bP bE K f b pre v W) (hP : W'.heap[bP]? = W.heap[bP]?) (hE : W'.heap[bE]? = W.heap[bE]?) (hv : ∀ g, v.ownBlock = some g → W'.heap[g]? = W.heap[g]?) (hs : W.heap.size ≤ W'.heap.size) (hb : Below w.heap.size w W') :
    Inv w bP bE K f b pre v W' :=
  ⟨hP.trans h.box, (h.row.kept hv).more (Nat.le_refl _) hs, hE.trans h.ebox, h.far, hb⟩
theorem Inv.only (h : Inv w bP bE K f b pre v W) (ho : OnlyIn b (b + 1) W W') (hP : bP < b) (hE : bE < b) (hb : w.heap.size ≤ b) : Inv w bP bE K f b pre v W' :=
  h.kept (ho.block _ h.box.lt (by omega)) (ho.block _ h.ebox.lt (by omega)) (fun g hg => ho.block g (h.row.blk hg).2.2.1 (by have := (h.far g hg).1; omega)) ho.size (below_touch h.below ho hb (Nat.le_refl _))
theorem Inv.below' (h : Inv w bP bE K f b pre v W) (ho : Below W.heap.size W W') : Inv w bP bE K f b pre v W' :=
  h.kept (ho.block _ h.box.lt) (ho.block _ h.ebox.lt) (fun g hg => ho.block g (h.row.blk hg).2.2.1) ho.size (below_then h.below ho (Nat.le_refl _))
theorem below_putObj {B l : Nat} {o : Obj} (h : Below B w W) (hB : B ≤ l) : Below B w (W.putObj l o) :=
  ⟨h.os, h.tape, h.output, by rw [size_put]; exact h.size, fun k hk => (only_put (g := 0) o k (by omega)).trans (h.block k hk)⟩
theorem Inv.put (h : Inv w bP bE K f b pre v W) {l : Nat} {o r : Obj} (hl : W.heap[l]? = some r) (hr : r.isCells = false) (hw : w.heap.size ≤ l) : Inv w bP bE K f b pre v (W.putObj l o) := by
  have ne : ∀ {k : Nat} {cs : Array Value} {t : TypeId}, W.heap[k]? = some (.cells cs t (0, 0)) → k ≠ l := by
    rintro k cs t hk rfl
    rw [hl] at hk
    injection hk with hk
    rw [hk] at hr
    cases hr
  refine h.kept (only_put (g := 0) o _ (ne h.box)) (only_put (g := 0) o _ (ne h.ebox)) (fun g hg => ?_) (by rw [size_put]; exact Nat.le_refl _) (below_putObj h.below hw)
  obtain ⟨_, _, _, cur, hc⟩ := h.row.blk hg
  exact only_put (g := 0) o _ (ne hc)
end

set_option maxRecDepth 100000 in
set_option maxHeartbeats 4000000 in
theorem walkOf_yes (w : World) {A : Option Addr} {c : Nat} {L : List Int} (h : Rd w 0 w.heap.size (.slice A L.length c) L) (hc : L.length ≤ c) (hm : c ≤ maxLen) (hy : Byt L) {a T : Nat} (h0 : a ≤ T) (h1 : T ≤ L.length) (h2 : L.length ≤ 1024) (hs : spanB L (a : Int) (T : Int) = true) :
    Calls Try.prog 23 #[.slice A L.length c, .int .i64 a, .int .i64 T] w (RetPs w (walkP L a T) (walkB L a T)) := by
  have HS := Lib.hid (BareI.spanThere w h (by omega) (f := (a : Int)) (t := (T : Int)) ⟨by omega, by omega⟩ ⟨by omega, by omega⟩)
  rw [hs] at HS
  have HC := Lib.hid (fun w' : World => cutI w' (A := A) (m := L.length) (c := c) (x := 0) (y := (T : Int)) 0 T rfl rfl (by omega) hm)
  have HR := Lib.hid h
  have HY : Hid (Byt (L.take T)) := Lib.hid (fun x hx => hy x (List.mem_of_mem_take hx))
  have HL : Hid ((L.take T).length = T) := Lib.hid (by rw [List.length_take]; omega)
  have HTL := Lib.hid h1
  have HP : Hid (walkB L a T = decide (endOf a (walkL (L.take T) a) = (T : Int))) := Lib.hid (by
    unfold walkB
    rw [hs, Bool.true_and, Int.toNat_natCast])
  have HW : Hid (walkP L a T = if walkB L a T then walkL (L.take T) a else []) := Lib.hid (by
    unfold walkP
    rw [Int.toNat_natCast])
  have b1 : T ≤ 1024 := by omega
  obtain ⟨m, hmm⟩ : ∃ m, m = L.length := ⟨_, rfl⟩
  rw [← hmm] at HC HS HR ⊢
  have b2 : m ≤ 1024 := by omega
  clear h hc hy h1 h2 hs hmm
  refine (callsIn_wide (n := 5)).1 ?_
  refine callsIn_of_wp_marks Try.func23 rfl trivial ?_ rfl
  simp only [Try.ntmps23, List.size_toArray, List.length_cons, List.length_nil, Nat.reduceAdd, Nat.reduceSub, Array.replicate_succ, Array.replicate_zero, List.push_toArray, List.append_toArray, List.nil_append, List.cons_append]
  gi_wp2_with fail
  refine ⟨trivial, (callsIn_wide.2 HS.out).mono ?_⟩
  rintro e w1 ⟨rfl, hb1⟩
  have HB1 := Lib.hid hb1
  clear hb1
  gi_wp2_with fail
  refine ⟨trivial, (callsIn_wide.2 (HC.out _)).mono ?_⟩
  rintro e w2 ⟨d, rfl, hp, rfl⟩
  have HD := Lib.hid hp
  obtain ⟨_, _, _, A', c', _, rfl, _, _, _⟩ := hp
  gi_wp2_with fail
  refine ⟨trivial, (callsIn_wide.2 (placesFrom _ _ _ _ _)).mono ?_⟩
  rintro e w2 ⟨rfl, rfl⟩
  gi_wp2
  have HB5 : Hid (Below w.heap.size w (((((w1.alloc (.cells #[] 46)).alloc (.cells #[.slice (some ⟨w1.heap.size, 0, none⟩) 0 0] 40)).alloc (.cells #[.int .i64 a] 2)).alloc (.cells #[.slice A' T c'] 28)).alloc (.cells #[.int .i64 a] 2))) :=
    Lib.hid (((((HB1.out.alloc HB1.out.size _).alloc (by have := HB1.out.size; simp; omega) _).alloc (by have := HB1.out.size; simp; omega) _).alloc (by have := HB1.out.size; simp; omega) _).alloc (by have := HB1.out.size; simp; omega) _)
  have kP : Blk (((((w1.alloc (.cells #[] 46)).alloc (.cells #[.slice (some ⟨w1.heap.size, 0, none⟩) 0 0] 40)).alloc (.cells #[.int .i64 a] 2)).alloc (.cells #[.slice A' T c'] 28)).alloc (.cells #[.int .i64 a] 2)) (w1.heap.size + 1) #[.slice (some ⟨w1.heap.size, 0, none⟩) 0 0] 40 := by
    have := (((Blk.new (w1.alloc (.cells #[] 46)) #[.slice (some ⟨w1.heap.size, 0, none⟩) 0 0] 40).more (.cells #[.int .i64 a] 2)).more (.cells #[.slice A' T c'] 28)).more (.cells #[.int .i64 a] 2)
    rw [World.size_alloc] at this
    exact this
  have kE : Blk (((((w1.alloc (.cells #[] 46)).alloc (.cells #[.slice (some ⟨w1.heap.size, 0, none⟩) 0 0] 40)).alloc (.cells #[.int .i64 a] 2)).alloc (.cells #[.slice A' T c'] 28)).alloc (.cells #[.int .i64 a] 2)) (w1.heap.size + 1 + 1) #[.int .i64 a] 2 := by
    have := ((Blk.new ((w1.alloc (.cells #[] 46)).alloc (.cells #[.slice (some ⟨w1.heap.size, 0, none⟩) 0 0] 40)) #[.int .i64 a] 2).more (.cells #[.slice A' T c'] 28)).more (.cells #[.int .i64 a] 2)
    simp only [World.size_alloc] at this
    exact this
  have kF : Blk (((((w1.alloc (.cells #[] 46)).alloc (.cells #[.slice (some ⟨w1.heap.size, 0, none⟩) 0 0] 40)).alloc (.cells #[.int .i64 a] 2)).alloc (.cells #[.slice A' T c'] 28)).alloc (.cells #[.int .i64 a] 2)) (w1.heap.size + 1 + 1 + 1) #[.slice A' T c'] 28 := by
    have := (Blk.new (((w1.alloc (.cells #[] 46)).alloc (.cells #[.slice (some ⟨w1.heap.size, 0, none⟩) 0 0] 40)).alloc (.cells #[.int .i64 a] 2)) #[.slice A' T c'] 28).more (.cells #[.int .i64 a] 2)
    simp only [World.size_alloc] at this
    exact this
  have kA : Blk (((((w1.alloc (.cells #[] 46)).alloc (.cells #[.slice (some ⟨w1.heap.size, 0, none⟩) 0 0] 40)).alloc (.cells #[.int .i64 a] 2)).alloc (.cells #[.slice A' T c'] 28)).alloc (.cells #[.int .i64 a] 2)) (w1.heap.size + 1 + 1 + 1 + 1) #[.int .i64 a] 2 := by
    have := Blk.new ((((w1.alloc (.cells #[] 46)).alloc (.cells #[.slice (some ⟨w1.heap.size, 0, none⟩) 0 0] 40)).alloc (.cells #[.int .i64 a] 2)).alloc (.cells #[.slice A' T c'] 28)) #[.int .i64 a] 2
    simp only [World.size_alloc] at this
    exact this
  have kR : OwnR (((((w1.alloc (.cells #[] 46)).alloc (.cells #[.slice (some ⟨w1.heap.size, 0, none⟩) 0 0] 40)).alloc (.cells #[.int .i64 a] 2)).alloc (.cells #[.slice A' T c'] 28)).alloc (.cells #[.int .i64 a] 2)) w.heap.size (((((w1.alloc (.cells #[] 46)).alloc (.cells #[.slice (some ⟨w1.heap.size, 0, none⟩) 0 0] 40)).alloc (.cells #[.int .i64 a] 2)).alloc (.cells #[.slice A' T c'] 28)).alloc (.cells #[.int .i64 a] 2)).heap.size 46 5 (.slice (some ⟨w1.heap.size, 0, none⟩) 0 0) [] := by
    have h0 := ownR_made w1 w.heap.size HB1.out.size 46 5
    exact ((h0.below ((((Below.refl _ _).alloc (Nat.le_refl _) _).alloc (by simp) _ |>.alloc (by first | (simp; done) | (simp; omega)) _).alloc (by first | (simp; done) | (simp; omega)) _)).more (Nat.le_refl _) (by first | (simp; done) | (simp; omega)))
  obtain ⟨W0, hW0⟩ : ∃ W0, W0 = ((((w1.alloc (.cells #[] 46)).alloc (.cells #[.slice (some ⟨w1.heap.size, 0, none⟩) 0 0] 40)).alloc (.cells #[.int .i64 a] 2)).alloc (.cells #[.slice A' T c'] 28)).alloc (.cells #[.int .i64 a] 2) := ⟨_, rfl⟩
  have hsz : W0.heap.size = w1.heap.size + 5 := by rw [hW0]; simp
  rw [← hW0] at HB5 kP kE kF kA kR ⊢
  have HSZ := Lib.hid hsz
  have hN := HB1.out.size
  obtain ⟨N, hNN⟩ : ∃ N, N = w1.heap.size := ⟨_, rfl⟩
  rw [← hNN] at HSZ kP kE kF kA kR hN ⊢
  clear hW0 hsz hNN HB1
  have HRd : Hid (Rd W0 0 w.heap.size (.slice A' T c') (L.take T)) := Lib.hid (by
    have := (HR.out.below HB5.out).part HD.out (a := 0) (n := T) (by rw [Nat.zero_add]; exact HTL.out)
    rwa [List.drop_zero] at this)
  refine wpIn_range (n := 5) (by omega) (gf := 59) (lb := #[.pointer (some ⟨N + 1 + 1 + 1, 0, none⟩), .pointer (some ⟨N + 1 + 1 + 1 + 1, 0, none⟩)]) rfl (enters_of Try.func59 (by kernel_rfl) rfl)
    (K := fun k => k < w.heap.size ∨ k = N + 1 + 1 + 1)
    (placesIter 4 W0 (lo := 0) (hi := w.heap.size) (bF := N + 1 + 1 + 1) (bA := N + 1 + 1 + 1 + 1) (fun k => k < w.heap.size ∨ k = N + 1 + 1 + 1) HRd.out (by rw [HL.out]; exact b1) HY.out (a := (a : Int)) ⟨by omega, by omega⟩ (kF.cell 0) (kA.cell 0)
      (fun k hk => by rcases hk with hk | hk; exact .inl hk.2; exact .inr hk) (by rw [HSZ.out]; omega) (by rw [HSZ.out]; omega) (by omega))
    (fun _ => rfl) (fun k hk => by rw [HSZ.out]; rcases hk with hk | hk <;> omega)
    (fun b pre W => ∃ v, Inv w (N + 1) (N + 1 + 1) (fun k => k < w.heap.size ∨ k = N + 1 + 1 + 1) a b pre v W)
    (fun b pre A B hb ⟨v, hv⟩ ho => ⟨v, hv.only ho (by rw [HSZ.out] at hb; omega) (by rw [HSZ.out] at hb; omega) (by rw [HSZ.out] at hb; omega)⟩)
    (fun b pre A l o r hl ⟨v, hv⟩ hr1 hr2 => ⟨v, hv.put hr1 hr2 (by rw [HSZ.out] at hl; omega)⟩)
    (fun b hb => ⟨_, kP, kR, kE, fun g hg => by
      simp [Value.ownBlock] at hg
      rw [HSZ.out] at hb
      omega, HB5.out⟩)
    (fun b pre x a' W => ∃ v Bx, Inv w (N + 1) (N + 1 + 1) (fun k => k < w.heap.size ∨ k = N + 1 + 1 + 1) a b pre v W ∧ v.ownBlock ≠ some Bx ∧ N + 5 ≤ Bx ∧ Blk W Bx #[.int .i64 x.a, .int .i64 x.h.s, .int .i64 x.h.o, .int .i64 x.h.l, .int .i64 x.h.r] 46 ∧
      a' = { tmps := #[.slice A m c, .int .i64 a, .int .i64 T, undef, undef, undef, .slice none 0 0, .bool false, .pointer (some ⟨N + 1, 0, none⟩), .pointer (some ⟨N + 1 + 1, 0, none⟩), .pointer (some ⟨Bx, 0, none⟩), .slice A m c, .int .i64 a, .int .i64 T, .bool true, .bool false, undef,
        .slice (some ⟨N, 0, none⟩) 0 0, .int .i64 a, .slice A m c, .int .i64 T, .slice A' T c', .int .i64 a, .func (.func 59) #[] #[.pointer (some ⟨N + 1 + 1 + 1, 0, none⟩), .pointer (some ⟨N + 1 + 1 + 1 + 1, 0, none⟩)],
        .agg #[.int .i64 x.a, .int .i64 x.h.s, .int .i64 x.h.o, .int .i64 x.h.l, .int .i64 x.h.r], undef, undef, undef, undef, undef, undef, undef, undef, undef, undef, undef], defers := [] })
    ?hAx ?assign ?body ?done
  case hAx =>
    rintro b pre x a' A l o r hl ⟨v, Bx, hi, h1, h2, h3, h4⟩ hr1 hr2
    refine ⟨v, Bx, hi.put hr1 hr2 (by rw [HSZ.out] at hl; omega), h1, h2, ?_, h4⟩
    refine (only_put (g := 0) o Bx ?_).trans h3
    rintro rfl
    rw [show A.heap[Bx]? = _ from h3] at hr1
    injection hr1 with hr1
    rw [← hr1] at hr2
    cases hr2
  case assign =>
    rintro l b pre x W Kc hb hbW hpre ⟨v, hi⟩ hK
    unfold encP
    gi_wp2
    refine hK _ _ ((Below.refl _ _).alloc (Nat.le_refl _) _) ⟨v, W.heap.size, hi.below' ((Below.refl _ _).alloc (Nat.le_refl _) _), ?_, ?_, Blk.new _ _ _, rfl⟩
    · intro hv
      have := (hi.row.blk hv).2.2.1
      omega
    · rw [HSZ.out] at hb
      omega
  case body =>
    rintro l b pre x a' W hb hbc hpre ⟨v, Bx, hi, hBx, hNB, hX, rfl⟩
    have hmem : x ∈ walkL (L.take T) a := hpre.subset (by simp)
    obtain ⟨m1, m2, m3, m4, _⟩ := walkL_mem hmem
    have hlen : pre.length + 1 ≤ 170 := by
      have h1 := hpre.length_le
      have h2 := walkL_length (L := L.take T) (a := (a : Int)) (by omega) (by rw [HL.out]; exact b1)
      rw [List.length_append, List.length_singleton] at h1
      omega
    have HI := Lib.hid hi
    have HX := Lib.hid hX
    have HV := Lib.hid hBx
    obtain ⟨cs, t, hbc⟩ := hbc
    have HBC := Lib.hid hbc
    have pc := hi.box.cell
    have x0 := hX.cell 0
    have x1 := hX.cell 1
    have x2 := hX.cell 2
    have x3 := hX.cell 3
    have x4 := hX.cell 4
    have HO : Hid (OwnR (W.alloc (.cells #[.int .i64 x.a, .int .i64 x.h.s, .int .i64 x.h.o, .int .i64 x.h.l, .int .i64 x.h.r] 46)) w.heap.size W.heap.size 46 5 v (pre.map plC)) := Lib.hid (hi.row.below ((Below.refl _ _).alloc (Nat.le_refl _) _))
    have HCC : Hid (∀ j u, (plC x)[j]? = some u → (W.alloc (.cells #[.int .i64 x.a, .int .i64 x.h.s, .int .i64 x.h.o, .int .i64 x.h.l, .int .i64 x.h.r] 46)).cell? ⟨W.heap.size, j, none⟩ = some u) := Lib.hid (fun j u hu => by
      rw [(Blk.new W _ _).cell j]
      show (plC x).toArray[j]? = some u
      simpa using hu)
    have HWL : Hid (w.heap.size ≤ (W.alloc (.cells #[.int .i64 x.a, .int .i64 x.h.s, .int .i64 x.h.o, .int .i64 x.h.l, .int .i64 x.h.r] 46)).heap.size) := Lib.hid (Nat.le_trans hi.below.size (by simp))
    have HLEN := Lib.hid hlen
    have hPB : v.ownBlock ≠ some (N + 1) := by
      intro e
      obtain ⟨_, _, _, cur, hcur⟩ := hi.row.blk e
      have := (show W.heap[N + 1]? = _ from hi.box).symm.trans hcur
      simp at this
    have hEB : v.ownBlock ≠ some (N + 1 + 1) := by
      intro e
      obtain ⟨_, _, _, cur, hcur⟩ := hi.row.blk e
      have := (show W.heap[N + 1 + 1]? = _ from hi.ebox).symm.trans hcur
      simp at this
    have HPB := Lib.hid hPB
    have HEB := Lib.hid hEB
    have hnx1 : ¬ Bx = N + 1 := by omega
    have hnx2 : ¬ Bx = N + 1 + 1 := by omega
    have hlW := HX.out.lt
    have hbW : b < W.heap.size := (Array.getElem?_eq_some_iff.1 hbc).1
    clear hi hX hBx hbc hpre hmem hPB hEB hlen
    gi_wp2_with (
      gi_at_builtin
      refine wpListIn_append_r rfl _ _ _ rfl _ 40 Try.underlying40 infoPl rfl (by omega) HO.out W.heap.size 1 (r := plC x) rfl HCC.out (by simp [plC, Value.oneCell']) (by have := HLEN.out; simp; omega) (by have := HLEN.out; simp [maxLen]; omega) HWL.out rfl rfl ?_
      intro v' w2 hO2 hT2 hG2 hA2
      have HO2 := Lib.hid hO2; have HG2 := Lib.hid hG2; have HA2 := Lib.hid hA2
      obtain ⟨A2, n2, c2, rfl⟩ := hO2.form
      have keep2 : ∀ k, k < W.heap.size → v.ownBlock ≠ some k → w2.heap[k]? = W.heap[k]? := fun k hk hv => (hG2.block k (by simp; omega) (fun e => hv e.symm)).trans (Below.heap_alloc _ _ _ hk)
      have HK2 := Lib.hid keep2
      have kP2 : Blk w2 (N + 1) #[v] 40 := (keep2 _ HI.out.box.lt HPB.out).trans HI.out.box
      have kE2 : Blk w2 (N + 1 + 1) #[.int .i64 (endOf a pre)] 2 := (keep2 _ HI.out.ebox.lt HEB.out).trans HI.out.ebox
      have kX2 : Blk w2 Bx #[.int .i64 x.a, .int .i64 x.h.s, .int .i64 x.h.o, .int .i64 x.h.l, .int .i64 x.h.r] 46 := (keep2 _ hlW HV.out).trans HX.out
      have HE2 := Lib.hid kE2
      have HS2 : Hid (W.heap.size ≤ w2.heap.size) := Lib.hid (by have := hG2.size; simp at this; omega)
      have pc2 := kP2.cell 0
      have pf2 := kP2.free 0
      have y0 := kX2.cell 0
      have y1 := kX2.cell 1
      have y2 := kX2.cell 2
      have y3 := kX2.cell 3
      have y4 := kX2.cell 4
      clear hO2 hT2 hG2 hA2 keep2 kP2 kE2 kX2)
    refine ⟨trivial, ((callsIn_wide.2 (behind _ m1 m2 (by omega) m4)).inRound l).mono ?_⟩
    rintro e w3 ⟨rfl, hb3⟩
    have kE3 : Blk w3 (N + 1 + 1) #[.int .i64 (endOf a pre)] 2 := Blk.below (w := w2.setCell ⟨N + 1, 0, none⟩ (.slice A2 n2 c2)) ((Below.heap_setCell _ _ _ _ (by show N + 1 + 1 ≠ N + 1; omega)).trans HE2.out) hb3
    have ec := kE3.cell 0
    have ef := kE3.free 0
    have HB3 := Lib.hid hb3
    clear kE3 hb3 pc2 pf2 y0 y1 y2 y3 y4
    gi_wp2
    have hs3 : w2.heap.size ≤ w3.heap.size := by have := HB3.out.size; simpa using this
    have keep : ∀ k, k < W.heap.size → k ≠ N + 1 → k ≠ N + 1 + 1 → v.ownBlock ≠ some k → (w3.setCell ⟨N + 1 + 1, 0, none⟩ (.int .i64 (x.a + x.h.s))).heap[k]? = W.heap[k]? := by
      intro k hk h1 h2 h3
      rw [Below.heap_setCell _ _ _ _ h2, HB3.out.block k (by have := HS2.out; simp; omega), Below.heap_setCell _ _ _ _ h1, HK2.out k hk h3]
    have bB : N + 5 ≤ b := by have := HSZ.out; omega
    have hNW : N + 5 ≤ W.heap.size := by omega
    have hf : ∀ g, v.ownBlock = some g → g ≠ b ∧ ¬ (g < w.heap.size ∨ g = N + 1 + 1 + 1) := HI.out.far
    have bP3 : Boxed (w3.setCell ⟨N + 1 + 1, 0, none⟩ (.int .i64 (x.a + x.h.s))) (N + 1) 40 (.slice A2 n2 c2) := by
      have k2 : Boxed w2 (N + 1) 40 v := (HK2.out _ HI.out.box.lt HPB.out).trans HI.out.box
      have k3 := k2.set (.slice A2 n2 c2)
      have k4 : Boxed w3 (N + 1) 40 (.slice A2 n2 c2) := (HB3.out.block _ k3.lt).trans k3
      exact (Below.heap_setCell _ _ _ _ (by show N + 1 ≠ N + 1 + 1; omega)).trans k4
    have kE2 : Boxed w2 (N + 1 + 1) 2 (.int .i64 (endOf a pre)) := HE2.out
    have bE3 : Boxed (w3.setCell ⟨N + 1 + 1, 0, none⟩ (.int .i64 (x.a + x.h.s))) (N + 1 + 1) 2 (.int .i64 (endOf a (pre ++ [x]))) := by
      have k3 : Boxed (w2.setCell ⟨N + 1, 0, none⟩ (.slice A2 n2 c2)) (N + 1 + 1) 2 (.int .i64 (endOf a pre)) := (Below.heap_setCell _ _ _ _ (by show N + 1 + 1 ≠ N + 1; omega)).trans kE2
      have k4 : Boxed w3 (N + 1 + 1) 2 (.int .i64 (endOf a pre)) := (HB3.out.block _ k3.lt).trans k3
      rw [endOf_snoc]
      exact k4.set _
    have bR3 : OwnR (w3.setCell ⟨N + 1 + 1, 0, none⟩ (.int .i64 (x.a + x.h.s))) w.heap.size (w3.setCell ⟨N + 1 + 1, 0, none⟩ (.int .i64 (x.a + x.h.s))).heap.size 46 5 (.slice A2 n2 c2) ((pre ++ [x]).map plC) := by
      rw [List.map_append, List.map_cons, List.map_nil]
      refine (HO2.out.kept (fun g hg => ?_)).more (Nat.le_refl _) (by simpa using hs3)
      obtain ⟨_, _, g3, cur, g4⟩ := HO2.out.blk hg
      have n1 : g ≠ N + 1 := by
        rintro rfl
        have k2 : Boxed w2 (N + 1) 40 v := (HK2.out _ HI.out.box.lt HPB.out).trans HI.out.box
        have := (show w2.heap[N + 1]? = _ from k2).symm.trans g4
        simp at this
      have n2' : g ≠ N + 1 + 1 := by
        rintro rfl
        have := (show w2.heap[N + 1 + 1]? = _ from kE2).symm.trans g4
        simp at this
      rw [Below.heap_setCell _ _ _ _ n2', HB3.out.block g (by simpa using g3), Below.heap_setCell _ _ _ _ n1]
    refine ⟨⟨_, bP3, bR3, bE3, fun g hg => ?_, ?_⟩, by have := HS2.out; simp; omega, fun k hk => ?_, fun k o hk ho => ?_⟩
    · rcases HA2.out with e | e
      · rw [e] at hg
        exact hf g hg
      · rw [e] at hg
        injection hg with hg
        rw [World.size_alloc] at hg
        omega
    · refine HI.out.below.trans ⟨?_, ?_, ?_, by have := HS2.out; simp; omega, fun k hk => keep k (by omega) (by omega) (by omega) (fun e => (hf k e).2 (.inl hk))⟩
      · exact HB3.out.os.trans HG2.out.os
      · exact HB3.out.tape.trans HG2.out.tape
      · exact HB3.out.output.trans HG2.out.output
    · rcases hk with (hk | hk) | hk
      · exact keep k (by omega) (by omega) (by omega) (fun e => (hf k e).2 (.inl hk))
      · exact keep k (by omega) (by omega) (by omega) (fun e => (hf k e).2 (.inr hk))
      · exact keep k (by omega) (by omega) (by omega) (fun e => (hf k e).1 hk)
    · have ne : ∀ {q : Nat} {cs : Array Value} {t : TypeId}, W.heap[q]? = some (.cells cs t (0, 0)) → k ≠ q := by
        rintro q cs t hq rfl
        rw [hk] at hq
        injection hq with hq
        rw [hq] at ho
        cases ho
      refine (keep k (Array.getElem?_eq_some_iff.1 hk).1 (ne HI.out.box) (ne HI.out.ebox) (fun e => ?_)).trans hk
      obtain ⟨_, _, _, cur, hcur⟩ := HI.out.row.blk e
      exact ne hcur rfl
  case done =>
    rintro D b W hD hb ⟨v, hi⟩ hDD
    have HI := Lib.hid hi
    have pc := hi.box.cell
    have ec := hi.ebox.cell
    have HDD := Lib.hid hDD
    clear hi hDD
    obtain ⟨X, hX⟩ : ∃ X, X = walkB L a T := ⟨_, rfl⟩
    rw [← hX] at HP HW ⊢
    have HX := Lib.hid hX
    clear hX
    obtain ⟨E, hE⟩ : ∃ E, E = endOf a (walkL (L.take T) a) := ⟨_, rfl⟩
    rw [← hE] at ec HP
    have HE := Lib.hid hE
    clear hE
    by_cases hET : E = (T : Int)
    · obtain rfl : X = true := by rw [HP.out]; simpa using hET
      subst hET
      gi_wp2
      refine ⟨by simp, .inl ⟨_, _, rfl, run_takeDeferred HDD.out, ?_⟩⟩
      have hI2 := HI.out.put (o := .deferred none) HDD.out rfl (by rw [HSZ.out] at hD; omega)
      refine ⟨_, results_tmp2 rfl _ _ _, ?_⟩
      rw [← HX.out, HW.out, if_pos (by simp)]
      exact ⟨_, rfl, hI2.row, hI2.below⟩
    · obtain rfl : X = false := by rw [HP.out]; simpa using hET
      have hET' : (E != (T : Int)) = true := by simpa using hET
      gi_wp2
      have hd2 : (W.alloc (.cells #[] 46)).heap[D]? = some (.deferred (some [])) := (Below.heap_alloc _ _ _ (Array.getElem?_eq_some_iff.1 HDD.out).1).trans HDD.out
      refine ⟨by simp, .inl ⟨_, _, rfl, run_takeDeferred hd2, ?_⟩⟩
      refine ⟨_, results_tmp2 rfl _ _ _, ?_⟩
      rw [← HX.out, HW.out, if_neg (by simp)]
      have hDW : D < W.heap.size := (Array.getElem?_eq_some_iff.1 HDD.out).1
      refine ⟨_, rfl, ?_, below_putObj (HI.out.below.alloc HI.out.below.size _) (by rw [HSZ.out] at hD; omega)⟩
      refine ((ownR_made W w.heap.size HI.out.below.size 46 5).kept (fun g hg => ?_)).more (Nat.le_refl _) (by rw [size_put]; exact Nat.le_refl _)
      simp [Value.ownBlock] at hg
      exact only_put (g := 0) _ _ (by omega)

set_option maxHeartbeats 1000000 in
theorem walkOf_no (w : World) {lo hi : Nat} {v : Value} {L : List Int} (h : Rd w lo hi v L) (hL : L.length ≤ 1048576) {f t : Int} (hf : I64 f) (ht : I64 t) (hs : spanB L f t = false) :
    Calls Try.prog 23 #[v, .int .i64 f, .int .i64 t] w (RetPs w (walkP L f t) (walkB L f t)) := by
  have HS := Lib.hid (BareI.spanThere w h hL hf ht)
  rw [hs] at HS
  have hb : walkB L f t = false := by unfold walkB; rw [hs, Bool.false_and]
  rw [walkP_no hb, hb]
  clear hb hs h
  go_enter Try.func23, Try.ntmps23
  go_wp2_with fail
  refine HS.out.mono ?_
  rintro e w1 ⟨rfl, hb1⟩
  go_wp2
  go_ret2
  exact ⟨_, rfl, (ownR_made w1 w.heap.size hb1.size 46 5), hb1.alloc hb1.size _⟩

theorem walkOf (w : World) {lo hi : Nat} {v : Value} {L : List Int} (h : Rd w lo hi v L) (hL : L.length ≤ 1048576) (hy : Byt L) {f t : Int} (hf : I64 f) (ht : I64 t) :
    Calls Try.prog 23 #[v, .int .i64 f, .int .i64 t] w (RetPs w (walkP L f t) (walkB L f t)) := by
  cases hs : spanB L f t with
  | false => exact walkOf_no w h hL hf ht hs
  | true =>
    have h1 := spanB_iff.1 hs
    obtain ⟨a, rfl⟩ : ∃ a : Nat, f = a := ⟨f.toNat, by omega⟩
    obtain ⟨T, rfl⟩ : ∃ T : Nat, t = T := ⟨t.toNat, by omega⟩
    have h2 := rd_all h
    obtain ⟨A, c, rfl, hc, hm, _⟩ := h
    exact walkOf_yes w h2 hc hm hy (by omega) (by omega) (by omega) hs
end Go.Proofs.Ytamgikcoknkghab.WalkI
