/-
  The program's own chapter 4: what each of its functions hands back, in the words of Pure4. Numbers of 64 bits.
-/
import Derived.Test.YtmipkngikimjgaaHeadA
import Derived.Test.YtmipkngikimjgaaPure4
namespace Go.Proofs.Ytmipkngikimjgaa.TickI
open Go.RowKit Go.Proofs.Ytmipkngikimjgaa.Mem Go.Proofs.Ytmipkngikimjgaa.Pure Go.Proofs.Ytmipkngikimjgaa.Help Go.Proofs.Ytmipkngikimjgaa.FloorI Go.Proofs.Ytmipkngikimjgaa.HeadI
set_option linter.unusedVariables false

abbrev tkV (t g s : Int) : Value := .agg #[.int .i64 t, .int .i64 g, .int .i64 s]

set_option maxHeartbeats 400000 in
theorem tagOk (w : World) {t g s : Int} :
    Calls Try.prog 44 #[.agg #[.int .i64 t, .int .i64 g, .int .i64 s]] w (RetV w (.bool (tagB t))) := by
  have HW := Lib.hid (fun w' : World => within w' (x := t) (a := 1) (b := 100000))
  have HT : Hid (tagB t = decide (1 ≤ t ∧ t ≤ 100000)) := Lib.hid rfl
  rw [← HT.out] at HW
  go_enter Try.func44, Try.ntmps44
  go_wp2_with fail
  refine (HW.out _).mono ?_
  rintro e w1 ⟨rfl, rfl⟩
  go_wp2
  go_ret
  exact ⟨rfl, (Below.refl _ _).alloc (Nat.le_refl _) _⟩

set_option maxHeartbeats 400000 in
theorem genOk (w : World) {t g s : Int} :
    Calls Try.prog 45 #[.agg #[.int .i64 t, .int .i64 g, .int .i64 s]] w (RetV w (.bool (genB g))) := by
  have HW := Lib.hid (fun w' : World => within w' (x := g) (a := 0) (b := 7))
  have HT : Hid (genB g = decide (0 ≤ g ∧ g ≤ 7)) := Lib.hid rfl
  rw [← HT.out] at HW
  go_enter Try.func45, Try.ntmps45
  go_wp2_with fail
  refine (HW.out _).mono ?_
  rintro e w1 ⟨rfl, rfl⟩
  go_wp2
  go_ret
  exact ⟨rfl, (Below.refl _ _).alloc (Nat.le_refl _) _⟩

set_option maxHeartbeats 400000 in
theorem slotOk (w : World) {t g s : Int} :
    Calls Try.prog 46 #[.agg #[.int .i64 t, .int .i64 g, .int .i64 s]] w (RetV w (.bool (slotB s))) := by
  have HW := Lib.hid (fun w' : World => within w' (x := s) (a := 0) (b := 15))
  have HT : Hid (slotB s = decide (0 ≤ s ∧ s ≤ 15)) := Lib.hid rfl
  rw [← HT.out] at HW
  go_enter Try.func46, Try.ntmps46
  go_wp2_with fail
  refine (HW.out _).mono ?_
  rintro e w1 ⟨rfl, rfl⟩
  go_wp2
  go_ret
  exact ⟨rfl, (Below.refl _ _).alloc (Nat.le_refl _) _⟩

/-- The three asks of a ticket, as method values, at block b. -/
def Asks (w : World) (b : Nat) (t g s : Int) : Prop :=
  Blk w b #[.func (.func 44) #[.agg #[.int .i64 t, .int .i64 g, .int .i64 s]] #[], .func (.func 45) #[.agg #[.int .i64 t, .int .i64 g, .int .i64 s]] #[], .func (.func 46) #[.agg #[.int .i64 t, .int .i64 g, .int .i64 s]] #[]] 71

theorem asks_at (w : World) (b : Nat) (hb : b = w.heap.size) (t g s : Int) :
    Asks (w.alloc (.cells #[.func (.func 44) #[.agg #[.int .i64 t, .int .i64 g, .int .i64 s]] #[], .func (.func 45) #[.agg #[.int .i64 t, .int .i64 g, .int .i64 s]] #[], .func (.func 46) #[.agg #[.int .i64 t, .int .i64 g, .int .i64 s]] #[]] 71)) b t g s := by
  subst hb
  exact Blk.new w _ _

set_option maxHeartbeats 1000000 in
theorem allHold (w : World) {b : Nat} {t g s : Int} (h : Asks w b t g s) :
    Calls Try.prog 43 #[.slice (some ⟨b, 0, none⟩) 3 3] w (RetV w (.bool (tickB t g s))) := by
  have HA := Lib.hid h
  have H0 := Lib.hid (fun w' : World => tagOk w' (t := t) (g := g) (s := s))
  have H1 := Lib.hid (fun w' : World => genOk w' (t := t) (g := g) (s := s))
  have H2 := Lib.hid (fun w' : World => slotOk w' (t := t) (g := g) (s := s))
  have HT : Hid (tickB t g s = (tagB t && (genB g && slotB s))) := Lib.hid rfl
  rw [HT.out]
  obtain ⟨X, hX⟩ : ∃ X, X = tagB t := ⟨_, rfl⟩
  obtain ⟨Y, hY⟩ : ∃ X, X = genB g := ⟨_, rfl⟩
  obtain ⟨Z, hZ⟩ : ∃ X, X = slotB s := ⟨_, rfl⟩
  rw [← hX] at H0 ⊢
  rw [← hY] at H1 ⊢
  rw [← hZ] at H2 ⊢
  clear h hX hY hZ HT
  go_enter Try.func43, Try.ntmps43
  go_wp2_with fail
  go_loopw [7] (fun i wr => ∃ k : Nat, k ≤ 3 ∧ i = .int .i64 k ∧ Hid ((1 ≤ k → X = true) ∧ (2 ≤ k → Y = true) ∧ (3 ≤ k → Z = true)) ∧ Below w.heap.size w wr) (fun i _ => 3 - (intOf i).toNat)
  case atStart => exact ⟨0, by omega, rfl, ⟨fun h => by omega, fun h => by omega, fun h => by omega⟩, Below.refl _ _⟩
  case round =>
    obtain ⟨k, hk, rfl, ho, hb⟩ := hrel
    have HB := Lib.hid hb
    clear hb
    have hkk : k = 0 ∨ k = 1 ∨ k = 2 ∨ k = 3 := by omega
    rcases hkk with rfl | rfl | rfl | rfl
    · have c := (HA.out.below HB.out).cell 0
      simp at c
      go_wp2_with fail
      refine (H0.out _).mono ?_
      rintro e w1 ⟨rfl, hb1⟩
      have HB1 := Lib.hid hb1
      clear hb1 c
      cases X
      · go_wp2
        go_ret
        exact ⟨rfl, below_then HB.out HB1.out (Nat.le_refl _)⟩
      · go_wp2
        go_roundw
        case rel => exact ⟨1, by omega, by go_num, ⟨fun _ => by first | rfl | trivial, fun h => by omega, fun h => by omega⟩, below_then HB.out HB1.out (Nat.le_refl _)⟩
        case measure => simp [intOf]
    · obtain rfl : X = true := ho.out.1 (by omega)
      have c := (HA.out.below HB.out).cell 1
      simp at c
      go_wp2_with fail
      refine (H1.out _).mono ?_
      rintro e w1 ⟨rfl, hb1⟩
      have HB1 := Lib.hid hb1
      clear hb1 c
      cases Y
      · go_wp2
        go_ret
        exact ⟨rfl, below_then HB.out HB1.out (Nat.le_refl _)⟩
      · go_wp2
        go_roundw
        case rel => exact ⟨2, by omega, by go_num, ⟨fun _ => by first | rfl | trivial, fun _ => by first | rfl | trivial, fun h => by omega⟩, below_then HB.out HB1.out (Nat.le_refl _)⟩
        case measure => simp [intOf]
    · obtain rfl : X = true := ho.out.1 (by omega)
      obtain rfl : Y = true := ho.out.2.1 (by omega)
      have c := (HA.out.below HB.out).cell 2
      simp at c
      go_wp2_with fail
      refine (H2.out _).mono ?_
      rintro e w1 ⟨rfl, hb1⟩
      have HB1 := Lib.hid hb1
      clear hb1 c
      cases Z
      · go_wp2
        go_ret
        exact ⟨rfl, below_then HB.out HB1.out (Nat.le_refl _)⟩
      · go_wp2
        go_roundw
        case rel => exact ⟨3, by omega, by go_num, ⟨fun _ => by first | rfl | trivial, fun _ => by first | rfl | trivial, fun _ => by first | rfl | trivial⟩, below_then HB.out HB1.out (Nat.le_refl _)⟩
        case measure => simp [intOf]
    · obtain rfl : X = true := ho.out.1 (by omega)
      obtain rfl : Y = true := ho.out.2.1 (by omega)
      obtain rfl : Z = true := ho.out.2.2 (by omega)
      go_wp2
      go_ret
      exact ⟨rfl, HB.out⟩

set_option maxHeartbeats 400000 in
theorem ticketOk (w : World) {t g s : Int} :
    Calls Try.prog 16 #[.agg #[.int .i64 t, .int .i64 g, .int .i64 s]] w (RetV w (.bool (tickB t g s))) := by
  have HQ := Lib.hid (fun (w' : World) (b : Nat) (h : Asks w' b t g s) => allHold w' h)
  obtain ⟨X, hX⟩ : ∃ X, X = tickB t g s := ⟨_, rfl⟩
  rw [← hX] at HQ ⊢
  clear hX
  go_enter Try.func16, Try.ntmps16
  go_wp2_with fail
  refine (HQ.out _ _ (asks_at _ _ (by simp) _ _ _)).mono ?_
  rintro e w1 ⟨rfl, hb1⟩
  have HB1 := Lib.hid hb1
  clear hb1
  go_wp2
  go_ret
  refine ⟨rfl, below_then ?_ HB1.out (Nat.le_refl _)⟩
  exact ((Below.refl _ _).alloc (Nat.le_refl _) _).alloc (by simp) _

set_option maxHeartbeats 400000 in
theorem number (w : World) {t g s : Int} (h : tickB t g s = true) :
    Calls Try.prog 38 #[.agg #[.int .i64 t, .int .i64 g, .int .i64 s]] w (RetV w (.int .i64 (numW t g s))) := by
  obtain ⟨⟨t1, t2⟩, ⟨g1, g2⟩, s1, s2⟩ := tickB_iff.1 h
  have HO1 := Lib.hid (or8 t g ⟨t1, t2⟩ ⟨g1, g2⟩)
  have HO2 := Lib.hid (or16 (t * 8 + g) s (by omega) ⟨s1, s2⟩)
  have HN : Hid (numW t g s = (t * 8 + g) * 16 + s) := Lib.hid rfl
  rw [HN.out]
  clear h HN
  have e1 := HO1.out
  have e2 := HO2.out
  go_enter Try.func38, Try.ntmps38
  go_wp2
  go_ret
  exact ⟨rfl, (Below.refl _ _).alloc (Nat.le_refl _) _⟩

set_option maxHeartbeats 400000 in
theorem numberOf (w : World) {t g s : Int} :
    Calls Try.prog 11 #[.agg #[.int .i64 t, .int .i64 g, .int .i64 s]] w (RetV w (.int .i64 (numT t g s))) := by
  have HS := Lib.hid (fun w' : World => ticketOk w' (t := t) (g := g) (s := s))
  by_cases hb : tickB t g s = true
  · have HC := Lib.hid (fun w' : World => number w' hb)
    have HN := Lib.hid (num_pos hb).1
    rw [hb] at HS
    rw [HN.out]
    obtain ⟨x, hx⟩ : ∃ x, x = numW t g s := ⟨_, rfl⟩
    rw [← hx] at HC ⊢
    clear hb HN hx
    go_enter Try.func11, Try.ntmps11
    go_wp2_with fail
    refine (HS.out _).mono ?_
    rintro e w1 ⟨rfl, hb1⟩
    have HB : Hid (Below w.heap.size w w1) := Lib.hid (below_then ((Below.refl _ _).alloc (Nat.le_refl _) _) hb1 (Nat.le_refl _))
    have c0 := ((Blk.new w _ _).below hb1).cell 0
    have c1 := ((Blk.new w _ _).below hb1).cell 1
    have c2 := ((Blk.new w _ _).below hb1).cell 2
    simp at c0 c1 c2
    clear hb1
    go_wp2_with fail
    refine (HC.out _).mono ?_
    rintro e w2 ⟨rfl, hb2⟩
    have HB2 : Hid (Below w.heap.size w w2) := Lib.hid (below_then HB.out hb2 (Nat.le_refl _))
    clear hb2 c0 c1 c2
    go_wp2
    go_ret
    exact ⟨rfl, HB2.out⟩
  · have hb' : tickB t g s = false := by simpa using hb
    have HN : Hid (numT t g s = -1) := Lib.hid (by unfold numT; rw [if_neg hb])
    rw [HN.out]
    rw [hb'] at HS
    clear hb hb' HN
    go_enter Try.func11, Try.ntmps11
    go_wp2_with fail
    refine (HS.out _).mono ?_
    rintro e w1 ⟨rfl, hb1⟩
    have HB : Hid (Below w.heap.size w w1) := Lib.hid (below_then ((Below.refl _ _).alloc (Nat.le_refl _) _) hb1 (Nat.le_refl _))
    clear hb1
    go_wp2
    go_ret
    exact ⟨rfl, HB.out⟩

/-- It hands back a ticket; nothing that was there has turned. -/
def RetT (w : World) (x : Tk) (e : Ending) (w' : World) : Prop :=
  e = .returned (.agg #[.int .i64 x.t, .int .i64 x.g, .int .i64 x.s]) ∧ Below w.heap.size w w'
/-- .. and a bool. -/
def RetTB (w : World) (x : Tk) (b : Bool) (e : Ending) (w' : World) : Prop :=
  e = .returned (.tuple #[.agg #[.int .i64 x.t, .int .i64 x.g, .int .i64 x.s], .bool b]) ∧ Below w.heap.size w w'

set_option maxHeartbeats 400000 in
theorem ticketIn (w : World) {n : Int} (hn : I64 n) :
    Calls Try.prog 42 #[.int .i64 n] w (RetT w ⟨n / 128, n / 16 % 8, n % 16⟩) := by
  have e7 := and7 (n / 16)
  have e15 := and15 n
  have HF7 : Hid (n.fdiv 128 = n / 128) := Lib.hid (Int.fdiv_eq_ediv_of_nonneg _ (by omega))
  have HF4 : Hid (n.fdiv 16 = n / 16) := Lib.hid (Int.fdiv_eq_ediv_of_nonneg _ (by omega))
  have f7 := HF7.out
  have f4 := HF4.out
  go_enter Try.func42, Try.ntmps42
  go_wp2
  refine bodyPost_ret (v := .agg #[.int .i64 (n / 128), .int .i64 (n / 16 % 8), .int .i64 (n % 16)]) (by simp [results, Try.results42, go_sem]) rfl ?_
  exact ⟨rfl, (Below.refl _ _).alloc (Nat.le_refl _) _⟩

theorem Blk.cells3 {w : World} {g : Nat} {a b c : Value} {t : TypeId} (h : Blk w g #[a, b, c] t) :
    w.cell? ⟨g, 0, none⟩ = some a ∧ w.cell? ⟨g, 1, none⟩ = some b ∧ w.cell? ⟨g, 2, none⟩ = some c :=
  ⟨h.cell 0, h.cell 1, h.cell 2⟩

/-- Behind a store of three cells into a block of the call's own. -/
def put3 (w : World) (g : Nat) (a b c : Value) : World := ((w.setCell ⟨g, 0, none⟩ a).setCell ⟨g, 1, none⟩ b).setCell ⟨g, 2, none⟩ c
theorem below_put3 {B g : Nat} {w0 w : World} (h : Below B w0 w) (hg : B ≤ g) (a b c : Value) : Below B w0 (put3 w g a b c) :=
  ((h.setCell (p := ⟨g, 0, none⟩) hg a).setCell (p := ⟨g, 1, none⟩) hg b).setCell (p := ⟨g, 2, none⟩) hg c

set_option maxHeartbeats 1000000 in
theorem ticketOf (w : World) {n : Int} (hn : I64 n) :
    Calls Try.prog 13 #[.int .i64 n] w (RetTB w (tickAt n) (tickAtB n)) := by
  have HI := Lib.hid (fun w' : World => ticketIn w' hn)
  have HS := Lib.hid (fun w' : World => ticketOk w' (t := n / 128) (g := n / 16 % 8) (s := n % 16))
  have HT : Hid (tickAtB n = tickB (n / 128) (n / 16 % 8) (n % 16)) := Lib.hid rfl
  have HV : Hid (tickAt n = if tickAtB n then ⟨n / 128, n / 16 % 8, n % 16⟩ else Tk.zero) := Lib.hid rfl
  rw [HV.out]
  rw [← HT.out] at HS
  obtain ⟨X, hX⟩ : ∃ X, X = tickAtB n := ⟨_, rfl⟩
  rw [← hX] at HS ⊢
  obtain ⟨t, ht⟩ : ∃ t, t = n / 128 := ⟨_, rfl⟩
  obtain ⟨g, hg⟩ : ∃ t, t = n / 16 % 8 := ⟨_, rfl⟩
  obtain ⟨s, hs⟩ : ∃ t, t = n % 16 := ⟨_, rfl⟩
  rw [← ht, ← hg, ← hs] at HI HS ⊢
  clear ht hg hs hX HT HV hn
  cases X
  all_goals simp only [Bool.false_eq_true, if_false, if_true]
  · go_enter Try.func13, Try.ntmps13
    go_wp2_with fail
    refine (HI.out _).mono ?_
    rintro e w1 ⟨rfl, hb1⟩
    have HZ1 : Hid (Blk w1 w.heap.size #[.int .i64 0, .int .i64 0, .int .i64 0] 25) := Lib.hid ((Blk.new w _ _).below hb1)
    have HB1 : Hid (Below w.heap.size w w1) := Lib.hid (below_then ((Below.refl _ _).alloc (Nat.le_refl _) _) hb1 (Nat.le_refl _))
    clear hb1
    go_wp2_with fail
    refine (HS.out _).mono ?_
    rintro e w2 ⟨rfl, hb2⟩
    have hn1 : Below w1.heap.size w1 (w1.alloc (.cells #[.int .i64 t, .int .i64 g, .int .i64 s] 25)) := (Below.refl _ _).alloc (Nat.le_refl _) _
    have HZ2 : Hid (Blk w2 w.heap.size #[.int .i64 0, .int .i64 0, .int .i64 0] 25) := Lib.hid ((HZ1.out.below hn1).below hb2)
    have HY2 : Hid (Blk w2 w1.heap.size #[.int .i64 t, .int .i64 g, .int .i64 s] 25) := Lib.hid ((Blk.new w1 _ _).below hb2)
    have HB2 : Hid (Below w.heap.size w w2) := Lib.hid (below_then (below_then HB1.out hn1 (Nat.le_refl _)) hb2 (Nat.le_refl _))
    have hne : w.heap.size < w1.heap.size := HZ1.out.lt
    clear hb2 hn1
    obtain ⟨c0, c1, c2⟩ := Blk.cells3 HZ2.out
    obtain ⟨d0, d1, d2⟩ := Blk.cells3 HY2.out
    have f0 := HZ2.out.free 0
    have f1 := HZ2.out.free 1
    have f2 := HZ2.out.free 2
    go_wp2
    refine bodyPost_ret (v := .tuple #[.agg #[.int .i64 0, .int .i64 0, .int .i64 0], .bool false]) (by simp [results, Try.results13, go_sem, c0, c1, c2]) rfl ?_
    exact ⟨rfl, below_put3 HB2.out (Nat.le_refl _) _ _ _⟩
  · go_enter Try.func13, Try.ntmps13
    go_wp2_with fail
    refine (HI.out _).mono ?_
    rintro e w1 ⟨rfl, hb1⟩
    have HZ1 : Hid (Blk w1 w.heap.size #[.int .i64 0, .int .i64 0, .int .i64 0] 25) := Lib.hid ((Blk.new w _ _).below hb1)
    have HB1 : Hid (Below w.heap.size w w1) := Lib.hid (below_then ((Below.refl _ _).alloc (Nat.le_refl _) _) hb1 (Nat.le_refl _))
    clear hb1
    go_wp2_with fail
    refine (HS.out _).mono ?_
    rintro e w2 ⟨rfl, hb2⟩
    have hn1 : Below w1.heap.size w1 (w1.alloc (.cells #[.int .i64 t, .int .i64 g, .int .i64 s] 25)) := (Below.refl _ _).alloc (Nat.le_refl _) _
    have HZ2 : Hid (Blk w2 w.heap.size #[.int .i64 0, .int .i64 0, .int .i64 0] 25) := Lib.hid ((HZ1.out.below hn1).below hb2)
    have HY2 : Hid (Blk w2 w1.heap.size #[.int .i64 t, .int .i64 g, .int .i64 s] 25) := Lib.hid ((Blk.new w1 _ _).below hb2)
    have HB2 : Hid (Below w.heap.size w w2) := Lib.hid (below_then (below_then HB1.out hn1 (Nat.le_refl _)) hb2 (Nat.le_refl _))
    have hne : w.heap.size < w1.heap.size := HZ1.out.lt
    clear hb2 hn1
    obtain ⟨c0, c1, c2⟩ := Blk.cells3 HZ2.out
    obtain ⟨d0, d1, d2⟩ := Blk.cells3 HY2.out
    have f0 := HZ2.out.free 0
    have f1 := HZ2.out.free 1
    have f2 := HZ2.out.free 2
    go_wp2
    refine bodyPost_ret (v := .tuple #[.agg #[.int .i64 t, .int .i64 g, .int .i64 s], .bool true]) (by simp [results, Try.results13, go_sem, c0, c1, c2]) rfl ?_
    exact ⟨rfl, below_put3 HB2.out (Nat.le_refl _) _ _ _⟩
end Go.Proofs.Ytmipkngikimjgaa.TickI
