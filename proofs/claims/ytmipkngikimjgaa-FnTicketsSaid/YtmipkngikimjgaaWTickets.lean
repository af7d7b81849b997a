/-
  FnTickets: whatever ticket and number are drawn, the program answers as the model does; what is made a number is read from it. No condition.
-/
import Derived.Test.YtmipkngikimjgaaDraw4
import Derived.Test.YtmipkngikimjgaaIn
import Derived.Deep.RegionHeld3
import Derived.BigQuiet
namespace Go.Proofs.Ytmipkngikimjgaa.fnTicketsW
open Go.RowKit Go.Proofs.Ytmipkngikimjgaa.Mem Go.Proofs.Ytmipkngikimjgaa.Pure Go.Proofs.Ytmipkngikimjgaa.Help Go.Proofs.Ytmipkngikimjgaa.FloorI Go.Proofs.Ytmipkngikimjgaa.TickI Go.Proofs.Ytmipkngikimjgaa.Cur
set_option linter.unusedVariables false

set_option maxHeartbeats 1000000 in
theorem big (w : World) {v : Value} {lo hi : Nat} {L : List Int} (h : Rd w lo hi v L) :
    Calls Try.prog 9 #[v] w fun e w' => e = .returned (.bool (decide (4096 < L.length))) ∧ w = w' := by
  obtain ⟨A, c, rfl, _, hm, _⟩ := h
  unfold maxLen at hm
  go_enter Try.func9, Try.ntmps9
  go_wp2
  go_ret
  refine ⟨?_, rfl⟩
  first | rfl | (simp; omega)

/-- What stands while the test is walked: three tickets in blocks of their own. -/
structure Bun (w w' : World) (k3 k6 k8 : Nat) (t g s : Int) (D : Tk) : Prop where
  a : Blk w' k3 #[.int .i64 t, .int .i64 g, .int .i64 s] 25
  b : Blk w' k6 #[.int .i64 D.t, .int .i64 D.g, .int .i64 D.s] 25
  c : Blk w' k8 #[.int .i64 D.t, .int .i64 D.g, .int .i64 D.s] 25
  e : Below w.heap.size w w'
section
variable {w w' w2 : World} {k3 k6 k8 : Nat} {t g s : Int} {D : Tk}
theorem Bun.step (h : Hid (Bun w w' k3 k6 k8 t g s D)) (hb : Below w'.heap.size w' w2) : Hid (Bun w w2 k3 k6 k8 t g s D) :=
  ⟨h.out.a.below hb, h.out.b.below hb, h.out.c.below hb, below_then h.out.e hb (Nat.le_refl _)⟩
theorem Bun.cells (h : Hid (Bun w w' k3 k6 k8 t g s D)) :
    w'.cell? ⟨k3, 0, none⟩ = some (.int .i64 t) ∧ w'.cell? ⟨k3, 1, none⟩ = some (.int .i64 g) ∧ w'.cell? ⟨k3, 2, none⟩ = some (.int .i64 s) ∧
    w'.cell? ⟨k6, 0, none⟩ = some (.int .i64 D.t) ∧ w'.cell? ⟨k6, 1, none⟩ = some (.int .i64 D.g) ∧ w'.cell? ⟨k6, 2, none⟩ = some (.int .i64 D.s) ∧
    w'.cell? ⟨k8, 0, none⟩ = some (.int .i64 D.t) ∧ w'.cell? ⟨k8, 1, none⟩ = some (.int .i64 D.g) ∧ w'.cell? ⟨k8, 2, none⟩ = some (.int .i64 D.s) ∧ Hid (Bun w w' k3 k6 k8 t g s D) :=
  ⟨h.out.a.cell 0, h.out.a.cell 1, h.out.a.cell 2, h.out.b.cell 0, h.out.b.cell 1, h.out.b.cell 2, h.out.c.cell 0, h.out.c.cell 1, h.out.c.cell 2, h⟩
end

set_option maxRecDepth 100000 in
set_option maxHeartbeats 4000000 in
theorem small (a0 : Option Addr) (len0 cap0 : Nat) (z0 : List Int) (w : World) (q0 : IsRow .u8 w a0 len0 cap0 z0) (hs0 : len0 ≤ 4096) :
    Calls Try.prog 3 #[.slice a0 len0 cap0] w fun e w' => e = .returned (.bool true) ∧ Below w.heap.size w w' := by
  have r0 := q0.rd
  have hlen0 := q0.len
  have hy0 := q0.byt
  obtain ⟨C, hC⟩ : ∃ Z, Z = z0.take len0 := ⟨_, rfl⟩
  rw [← hC] at r0 hlen0 hy0
  have HR0 := Lib.hid r0; have HL0 : Hid (C.length ≤ 4096) := Lib.hid (by omega); have HY0 := Lib.hid hy0
  have HBIG : Hid (∀ w1 : World, Below w.heap.size w w1 → Calls Try.prog 9 #[.slice a0 len0 cap0] w1 fun e w2 => e = .returned (.bool false) ∧ w1 = w2) := Lib.hid (fun w1 hb => by have := big w1 (r0.below hb); rwa [decide_eq_false (by omega)] at this)
  clear r0 hlen0 hy0 hC q0 hs0
  go_enter Try.func3, Try.ntmps3
  go_wp2_with fail
  refine (HBIG.out w (Below.refl _ _)).mono ?_
  rintro e w1 ⟨rfl, rfl⟩
  go_wp2_with fail
  refine (drawNumberOf w HR0.out HL0.out HY0.out).mono ?_
  rintro e w1 ⟨t, g, s, rfl, it, ig, is, hb1⟩
  have HN1 : Hid (Below w.heap.size w (w1.alloc (.cells #[.int .i64 t, .int .i64 g, .int .i64 s] 25))) := Lib.hid (below_then hb1 ((Below.refl _ _).alloc (Nat.le_refl _) _) (Nat.le_refl _))
  clear hb1 it ig is
  have HI := Lib.hid (fun w' : World => TickI.ticketOk w' (t := t) (g := g) (s := s))
  have HS := Lib.hid (fun w' : World => TickS.ticketOk w' (t := t) (g := g) (s := s))
  have HNI := Lib.hid (fun w' : World => TickI.numberOf w' (t := t) (g := g) (s := s))
  have HNS := Lib.hid (fun w' : World => TickS.numberOf w' (t := t) (g := g) (s := s))
  obtain ⟨m, hm⟩ : ∃ m, m = numT t g s := ⟨_, rfl⟩
  rw [← hm] at HNI HNS
  have HM := Lib.hid hm
  clear hm
  go_wp2_with fail
  refine (HNI.out _).mono ?_
  rintro e w2 ⟨rfl, hb2⟩
  have HA2 : Hid (Blk w2 w1.heap.size #[.int .i64 t, .int .i64 g, .int .i64 s] 25) := Lib.hid ((Blk.new w1 _ _).below hb2)
  have HB2 : Hid (Below w.heap.size w w2) := Lib.hid (below_then HN1.out hb2 (Nat.le_refl _))
  clear hb2
  go_wp2_with fail
  refine (drawTicketOf w2 ((HR0.out.below HB2.out).more (Nat.le_refl _) HB2.out.size) HL0.out HY0.out).mono ?_
  rintro e w3 ⟨k, rfl, ik, hb3⟩
  have HA3 := Lib.hid (HA2.out.below hb3)
  have HB3 : Hid (Below w.heap.size w w3) := Lib.hid (below_then HB2.out hb3 (Nat.le_refl _))
  clear hb3
  have HTI := Lib.hid (fun w' : World => TickI.ticketOf w' ik)
  have HTS := Lib.hid (fun w' : World => TickS.ticketOf w' ik)
  obtain ⟨D, hD⟩ : ∃ D, D = tickAt k := ⟨_, rfl⟩
  obtain ⟨X, hX⟩ : ∃ X, X = tickAtB k := ⟨_, rfl⟩
  rw [← hD, ← hX] at HTI HTS
  have HX := Lib.hid hX
  have HD := Lib.hid hD
  clear ik hX hD
  go_wp2_with fail
  refine (HTI.out _).mono ?_
  rintro e w4 ⟨rfl, hb4⟩
  have HN4 : Hid (Below w3.heap.size w3 (w4.alloc (.cells #[.int .i64 D.t, .int .i64 D.g, .int .i64 D.s] 25))) := Lib.hid (below_then hb4 ((Below.refl _ _).alloc (Nat.le_refl _) _) (Nat.le_refl _))
  clear hb4
  go_wp2_with fail
  refine (HTS.out _).mono ?_
  rintro e w5 ⟨rfl, hb5⟩
  have hn5 : Below w5.heap.size w5 (w5.alloc (.cells #[.int .i64 D.t, .int .i64 D.g, .int .i64 D.s] 25)) := (Below.refl _ _).alloc (Nat.le_refl _) _
  have HU : Hid (Bun w (w5.alloc (.cells #[.int .i64 D.t, .int .i64 D.g, .int .i64 D.s] 25)) w1.heap.size w4.heap.size w5.heap.size t g s D) := Lib.hid
    ⟨((HA3.out.below HN4.out).below hb5).below hn5, ((Blk.new w4 _ _).below hb5).below hn5, Blk.new w5 _ _, below_then (below_then (below_then HB3.out HN4.out (Nat.le_refl _)) hb5 (Nat.le_refl _)) hn5 (Nat.le_refl _)⟩
  clear hb5 hn5
  have huc := Bun.cells HU
  cases X
  · cases hb : tickB t g s
    · rw [hb] at HI HS
      have HM1 : Hid (m = -1) := Lib.hid (by rw [HM.out]; unfold numT; rw [hb]; rfl)
      clear hb
      go_wp2_with fail
      refine wp_region_held_drew (S := (fun w' => w'.cell? ⟨w1.heap.size, 0, none⟩ = some (.int .i64 t) ∧ w'.cell? ⟨w1.heap.size, 1, none⟩ = some (.int .i64 g) ∧ w'.cell? ⟨w1.heap.size, 2, none⟩ = some (.int .i64 s) ∧ w'.cell? ⟨w4.heap.size, 0, none⟩ = some (.int .i64 D.t) ∧ w'.cell? ⟨w4.heap.size, 1, none⟩ = some (.int .i64 D.g) ∧ w'.cell? ⟨w4.heap.size, 2, none⟩ = some (.int .i64 D.s) ∧ w'.cell? ⟨w5.heap.size, 0, none⟩ = some (.int .i64 D.t) ∧ w'.cell? ⟨w5.heap.size, 1, none⟩ = some (.int .i64 D.g) ∧ w'.cell? ⟨w5.heap.size, 2, none⟩ = some (.int .i64 D.s) ∧ Hid (Bun w w' w1.heap.size w4.heap.size w5.heap.size t g s D))) (by kernel_rfl) ?_ (fun hHeld => ?_)
      · exact Bun.cells (Bun.step HU (below_drew _))
      refine wpAnyH_take (i := 0) (oi := { dst := some 30, op := Op.move (Operand.tmp 4), type := 2, pos := "laws.go:322", after := #[], guard := none }) (v := ?vb10) rfl (by kernel_rfl) (by kernel_rfl) (by kernel_rfl) (fun _ _ _ h => h) (Or.inl ⟨by rfl, ?hb10⟩) hHeld ?rb10
      case hb10 => intro w hSw; (try dsimp only at hSw); go_simp; try with_reducible rfl
      try simp only [Act.put, List.setIfInBounds_toArray, List.set_cons_zero, List.set_cons_succ]
      refine wpAnyH_take (i := 1) (oi := { dst := some 31, op := Op.load 25 (Operand.tmp 3), type := 25, pos := "laws.go:322", after := #[], guard := none }) (v := ?vb11) rfl (by kernel_rfl) (by kernel_rfl) (by kernel_rfl) (fun _ _ _ h => h) (Or.inl ⟨by rfl, ?hb11⟩) hHeld ?rb11
      case hb11 => intro w hSw; (try dsimp only at hSw); go_simp; try with_reducible rfl
      try simp only [Act.put, List.setIfInBounds_toArray, List.set_cons_zero, List.set_cons_succ]
      refine wpAnyH_ready (rs := [2]) (by kernel_rfl) (by simp) ?_
      refine AllReadyH.cons (o := { dst := some 32, op := Op.call { callee := Callee.value (Operand.func 15), args := #[Operand.tmp 31], argTypes := #[25] }, type := 2, pos := "laws.go:322", after := #[{ on := 1, ground := Ground.data }], guard := none }) rfl (fun K hK => ?_) AllReadyH.nil
      go_simp
      refine (HNS.out _).mono ?_
      rintro e w10 ⟨rfl, hb9⟩
      try go_wp2_with fail
      refine hK.out _ _ ?_ (fun hNew => ?_)
      · exact Bun.cells (Bun.step hHeld.2.2.2.2.2.2.2.2.2 hb9)
      clear hHeld hb9
      have hHeld := hNew
      clear hNew
      clear hK K
      try simp only [Act.put, List.setIfInBounds_toArray, List.set_cons_zero, List.set_cons_succ]
      refine wpAnyH_take (i := 3) (oi := { dst := some 33, op := Op.binOp BinOp.neq 2 (Operand.tmp 30) (Operand.tmp 32) 2, type := 4, pos := "laws.go:322", after := #[{ on := 0, ground := Ground.data }, { on := 2, ground := Ground.data }], guard := none }) (v := ?vb13) rfl (by kernel_rfl) (by kernel_rfl) (by kernel_rfl) (fun _ _ _ h => h) (Or.inl ⟨by rfl, ?hb13⟩) hHeld ?rb13
      case hb13 => intro w hSw; (try dsimp only at hSw); go_simp; try with_reducible rfl
      try simp only [Act.put, List.setIfInBounds_toArray, List.set_cons_zero, List.set_cons_succ]
      refine wpAnyH_take (i := 4) (oi := { dst := some 34, op := Op.move (Operand.tmp 33), type := 4, pos := "laws.go:322", after := #[{ on := 3, ground := Ground.data }, { on := 2, ground := Ground.chain }], guard := none }) (v := ?vb14) rfl (by kernel_rfl) (by kernel_rfl) (by kernel_rfl) (fun _ _ _ h => h) (Or.inl ⟨by rfl, ?hb14⟩) hHeld ?rb14
      case hb14 => intro w hSw; (try dsimp only at hSw); go_simp; try with_reducible rfl
      try simp only [Act.put, List.setIfInBounds_toArray, List.set_cons_zero, List.set_cons_succ]
      refine wpAnyH_take (i := 5) (oi := { dst := some 35, op := Op.load 25 (Operand.tmp 6), type := 25, pos := "laws.go:322", after := #[{ on := 4, ground := Ground.guard }], guard := some (4, false) }) (v := ?vb15) rfl (by kernel_rfl) (by kernel_rfl) (by kernel_rfl) (fun _ _ _ h => h) (Or.inl ⟨by rfl, ?hb15⟩) hHeld ?rb15
      case hb15 => intro w hSw; (try dsimp only at hSw); go_simp; try with_reducible rfl
      try simp only [Act.put, List.setIfInBounds_toArray, List.set_cons_zero, List.set_cons_succ]
      refine wpAnyH_take (i := 6) (oi := { dst := some 36, op := Op.load 25 (Operand.tmp 8), type := 25, pos := "laws.go:322", after := #[{ on := 4, ground := Ground.guard }], guard := some (4, false) }) (v := ?vb16) rfl (by kernel_rfl) (by kernel_rfl) (by kernel_rfl) (fun _ _ _ h => h) (Or.inl ⟨by rfl, ?hb16⟩) hHeld ?rb16
      case hb16 => intro w hSw; (try dsimp only at hSw); go_simp; try with_reducible rfl
      try simp only [Act.put, List.setIfInBounds_toArray, List.set_cons_zero, List.set_cons_succ]
      refine wpAnyH_take (i := 7) (oi := { dst := some 37, op := Op.binOp BinOp.neq 25 (Operand.tmp 35) (Operand.tmp 36) 25, type := 4, pos := "laws.go:322", after := #[{ on := 5, ground := Ground.data }, { on := 6, ground := Ground.data }, { on := 4, ground := Ground.guard }], guard := some (4, false) }) (v := ?vb17) rfl (by kernel_rfl) (by kernel_rfl) (by kernel_rfl) (fun _ _ _ h => h) (Or.inl ⟨by rfl, ?hb17⟩) hHeld ?rb17
      case hb17 => intro w hSw; (try dsimp only at hSw); go_simp; try with_reducible rfl
      try simp only [Act.put, List.setIfInBounds_toArray, List.set_cons_zero, List.set_cons_succ]
      refine wpAnyH_take (i := 8) (oi := { dst := some 38, op := Op.pick (Operand.tmp 34) (Operand.const (Value.bool true)) (Operand.tmp 37), type := 4, pos := "laws.go:322", after := #[{ on := 4, ground := Ground.data }, { on := 7, ground := Ground.data }], guard := none }) (v := ?vb18) rfl (by kernel_rfl) (by kernel_rfl) (by kernel_rfl) (fun _ _ _ h => h) (Or.inl ⟨by rfl, ?hb18⟩) hHeld ?rb18
      case hb18 => intro w hSw; (try dsimp only at hSw); go_simp; try with_reducible rfl
      try simp only [Act.put, List.setIfInBounds_toArray, List.set_cons_zero, List.set_cons_succ]
      refine wpAnyH_take (i := 9) (oi := { dst := some 39, op := Op.move (Operand.tmp 38), type := 4, pos := "laws.go:322", after := #[{ on := 8, ground := Ground.data }, { on := 4, ground := Ground.chain }], guard := none }) (v := ?vb19) rfl (by kernel_rfl) (by kernel_rfl) (by kernel_rfl) (fun _ _ _ h => h) (Or.inl ⟨by rfl, ?hb19⟩) hHeld ?rb19
      case hb19 => intro w hSw; (try dsimp only at hSw); go_simp; try with_reducible rfl
      try simp only [Act.put, List.setIfInBounds_toArray, List.set_cons_zero, List.set_cons_succ]
      refine wpAnyH_take (i := 10) (oi := { dst := some 40, op := Op.move (Operand.tmp 7), type := 4, pos := "laws.go:322", after := #[{ on := 9, ground := Ground.guard }], guard := some (9, false) }) (v := ?vb110) rfl (by kernel_rfl) (by kernel_rfl) (by kernel_rfl) (fun _ _ _ h => h) (Or.inl ⟨by rfl, ?hb110⟩) hHeld ?rb110
      case hb110 => intro w hSw; (try dsimp only at hSw); go_simp; try with_reducible rfl
      try simp only [Act.put, List.setIfInBounds_toArray, List.set_cons_zero, List.set_cons_succ]
      refine wpAnyH_take (i := 11) (oi := { dst := some 41, op := Op.move (Operand.tmp 9), type := 4, pos := "laws.go:322", after := #[{ on := 9, ground := Ground.guard }], guard := some (9, false) }) (v := ?vb111) rfl (by kernel_rfl) (by kernel_rfl) (by kernel_rfl) (fun _ _ _ h => h) (Or.inl ⟨by rfl, ?hb111⟩) hHeld ?rb111
      case hb111 => intro w hSw; (try dsimp only at hSw); go_simp; try with_reducible rfl
      try simp only [Act.put, List.setIfInBounds_toArray, List.set_cons_zero, List.set_cons_succ]
      refine wpAnyH_take (i := 12) (oi := { dst := some 42, op := Op.binOp BinOp.neq 4 (Operand.tmp 40) (Operand.tmp 41) 4, type := 4, pos := "laws.go:322", after := #[{ on := 10, ground := Ground.data }, { on := 11, ground := Ground.data }, { on := 9, ground := Ground.guard }], guard := some (9, false) }) (v := ?vb112) rfl (by kernel_rfl) (by kernel_rfl) (by kernel_rfl) (fun _ _ _ h => h) (Or.inl ⟨by rfl, ?hb112⟩) hHeld ?rb112
      case hb112 => intro w hSw; (try dsimp only at hSw); go_simp; try with_reducible rfl
      try simp only [Act.put, List.setIfInBounds_toArray, List.set_cons_zero, List.set_cons_succ]
      refine wpAnyH_take (i := 13) (oi := { dst := some 43, op := Op.pick (Operand.tmp 39) (Operand.const (Value.bool true)) (Operand.tmp 42), type := 4, pos := "laws.go:322", after := #[{ on := 9, ground := Ground.data }, { on := 12, ground := Ground.data }], guard := none }) (v := ?vb113) rfl (by kernel_rfl) (by kernel_rfl) (by kernel_rfl) (fun _ _ _ h => h) (Or.inl ⟨by rfl, ?hb113⟩) hHeld ?rb113
      case hb113 => intro w hSw; (try dsimp only at hSw); go_simp; try with_reducible rfl
      try simp only [Act.put, List.setIfInBounds_toArray, List.set_cons_zero, List.set_cons_succ]
      refine wpAnyH_take (i := 14) (oi := { dst := some 44, op := Op.move (Operand.tmp 43), type := 4, pos := "laws.go:322", after := #[{ on := 13, ground := Ground.data }, { on := 9, ground := Ground.chain }], guard := none }) (v := ?vb114) rfl (by kernel_rfl) (by kernel_rfl) (by kernel_rfl) (fun _ _ _ h => h) (Or.inl ⟨by rfl, ?hb114⟩) hHeld ?rb114
      case hb114 => intro w hSw; (try dsimp only at hSw); go_simp; try with_reducible rfl
      try simp only [Act.put, List.setIfInBounds_toArray, List.set_cons_zero, List.set_cons_succ]
      refine wpAnyH_take (i := 15) (oi := { dst := some 45, op := Op.load 25 (Operand.tmp 3), type := 25, pos := "laws.go:322", after := #[{ on := 14, ground := Ground.guard }], guard := some (14, false) }) (v := ?vb115) rfl (by kernel_rfl) (by kernel_rfl) (by kernel_rfl) (fun _ _ _ h => h) (Or.inl ⟨by rfl, ?hb115⟩) hHeld ?rb115
      case hb115 => intro w hSw; (try dsimp only at hSw); go_simp; try with_reducible rfl
      try simp only [Act.put, List.setIfInBounds_toArray, List.set_cons_zero, List.set_cons_succ]
      refine wpAnyH_take (i := 17) (oi := { dst := some 47, op := Op.load 25 (Operand.tmp 3), type := 25, pos := "laws.go:322", after := #[{ on := 14, ground := Ground.guard }], guard := some (14, false) }) (v := ?vb117) rfl (by kernel_rfl) (by kernel_rfl) (by kernel_rfl) (fun _ _ _ h => h) (Or.inl ⟨by rfl, ?hb117⟩) hHeld ?rb117
      case hb117 => intro w hSw; (try dsimp only at hSw); go_simp; try with_reducible rfl
      try simp only [Act.put, List.setIfInBounds_toArray, List.set_cons_zero, List.set_cons_succ]
      refine wpAnyH_ready (rs := [16]) (by kernel_rfl) (by simp) ?_
      refine AllReadyH.cons (o := { dst := some 46, op := Op.call { callee := Callee.value (Operand.func 16), args := #[Operand.tmp 45], argTypes := #[25] }, type := 4, pos := "laws.go:322", after := #[{ on := 15, ground := Ground.data }, { on := 14, ground := Ground.chain }, { on := 14, ground := Ground.guard }], guard := some (14, false) }) rfl (fun K hK => ?_) AllReadyH.nil
      go_simp
      refine (HI.out _).mono ?_
      rintro e w11 ⟨rfl, hb9⟩
      try go_wp2_with fail
      refine hK.out _ _ ?_ (fun hNew => ?_)
      · exact Bun.cells (Bun.step hHeld.2.2.2.2.2.2.2.2.2 hb9)
      clear hHeld hb9
      have hHeld := hNew
      clear hNew
      clear hK K
      try simp only [Act.put, List.setIfInBounds_toArray, List.set_cons_zero, List.set_cons_succ]
      refine wpAnyH_ready (rs := [18]) (by kernel_rfl) (by simp) ?_
      refine AllReadyH.cons (o := { dst := some 48, op := Op.call { callee := Callee.value (Operand.func 17), args := #[Operand.tmp 47], argTypes := #[25] }, type := 4, pos := "laws.go:322", after := #[{ on := 17, ground := Ground.data }, { on := 16, ground := Ground.chain }, { on := 14, ground := Ground.guard }], guard := some (14, false) }) rfl (fun K hK => ?_) AllReadyH.nil
      go_simp
      refine (HS.out _).mono ?_
      rintro e w12 ⟨rfl, hb9⟩
      try go_wp2_with fail
      refine hK.out _ _ ?_ (fun hNew => ?_)
      · exact Bun.cells (Bun.step hHeld.2.2.2.2.2.2.2.2.2 hb9)
      clear hHeld hb9
      have hHeld := hNew
      clear hNew
      clear hK K
      try simp only [Act.put, List.setIfInBounds_toArray, List.set_cons_zero, List.set_cons_succ]
      refine wpAnyH_take (i := 19) (oi := { dst := some 49, op := Op.binOp BinOp.neq 4 (Operand.tmp 46) (Operand.tmp 48) 4, type := 4, pos := "laws.go:322", after := #[{ on := 16, ground := Ground.data }, { on := 18, ground := Ground.data }, { on := 14, ground := Ground.guard }], guard := some (14, false) }) (v := ?vb119) rfl (by kernel_rfl) (by kernel_rfl) (by kernel_rfl) (fun _ _ _ h => h) (Or.inl ⟨by rfl, ?hb119⟩) hHeld ?rb119
      case hb119 => intro w hSw; (try dsimp only at hSw); go_simp; try with_reducible rfl
      try simp only [Act.put, List.setIfInBounds_toArray, List.set_cons_zero, List.set_cons_succ]
      refine wpAnyH_take (i := 20) (oi := { dst := some 50, op := Op.pick (Operand.tmp 44) (Operand.const (Value.bool true)) (Operand.tmp 49), type := 4, pos := "laws.go:322", after := #[{ on := 14, ground := Ground.data }, { on := 19, ground := Ground.data }], guard := none }) (v := ?vb120) rfl (by kernel_rfl) (by kernel_rfl) (by kernel_rfl) (fun _ _ _ h => h) (Or.inl ⟨by rfl, ?hb120⟩) hHeld ?rb120
      case hb120 => intro w hSw; (try dsimp only at hSw); go_simp; try with_reducible rfl
      try simp only [Act.put, List.setIfInBounds_toArray, List.set_cons_zero, List.set_cons_succ]
      refine wpAnyH_take (i := 21) (oi := { dst := some 51, op := Op.move (Operand.tmp 50), type := 4, pos := "laws.go:322", after := #[{ on := 20, ground := Ground.data }, { on := 18, ground := Ground.chain }], guard := none }) (v := ?vb121) rfl (by kernel_rfl) (by kernel_rfl) (by kernel_rfl) (fun _ _ _ h => h) (Or.inl ⟨by rfl, ?hb121⟩) hHeld ?rb121
      case hb121 => intro w hSw; (try dsimp only at hSw); go_simp; try with_reducible rfl
      try simp only [Act.put, List.setIfInBounds_toArray, List.set_cons_zero, List.set_cons_succ]
      refine wpAnyH_take (i := 22) (oi := { dst := some 52, op := Op.move (Operand.tmp 7), type := 4, pos := "laws.go:322", after := #[{ on := 21, ground := Ground.guard }], guard := some (21, false) }) (v := ?vb122) rfl (by kernel_rfl) (by kernel_rfl) (by kernel_rfl) (fun _ _ _ h => h) (Or.inl ⟨by rfl, ?hb122⟩) hHeld ?rb122
      case hb122 => intro w hSw; (try dsimp only at hSw); go_simp; try with_reducible rfl
      try simp only [Act.put, List.setIfInBounds_toArray, List.set_cons_zero, List.set_cons_succ]
      refine wpAnyH_take (i := 23) (oi := { dst := some 53, op := Op.move (Operand.tmp 52), type := 4, pos := "laws.go:322", after := #[{ on := 22, ground := Ground.data }, { on := 21, ground := Ground.chain }, { on := 21, ground := Ground.guard }], guard := some (21, false) }) (v := ?vb123) rfl (by kernel_rfl) (by kernel_rfl) (by kernel_rfl) (fun _ _ _ h => h) (Or.inl ⟨by rfl, ?hb123⟩) hHeld ?rb123
      case hb123 => intro w hSw; (try dsimp only at hSw); go_simp; try with_reducible rfl
      try simp only [Act.put, List.setIfInBounds_toArray, List.set_cons_zero, List.set_cons_succ]
      refine wpAnyH_take (i := 24) (oi := { dst := some 54, op := Op.load 25 (Operand.tmp 6), type := 25, pos := "laws.go:322", after := #[{ on := 23, ground := Ground.guard }], guard := some (23, true) }) (v := undef) rfl (by kernel_rfl) (by kernel_rfl) (by kernel_rfl) (fun _ _ _ h => h) (Or.inr ⟨by rfl, rfl⟩) hHeld ?_
      try simp only [Act.put, List.setIfInBounds_toArray, List.set_cons_zero, List.set_cons_succ]
      refine wpAnyH_take (i := 25) (oi := { dst := some 55, op := Op.call { callee := Callee.value (Operand.func 11), args := #[Operand.tmp 54], argTypes := #[25] }, type := 2, pos := "laws.go:322", after := #[{ on := 24, ground := Ground.data }, { on := 23, ground := Ground.chain }, { on := 23, ground := Ground.guard }], guard := some (23, true) }) (v := undef) rfl (by kernel_rfl) (by kernel_rfl) (by kernel_rfl) (fun _ _ _ h => h) (Or.inr ⟨by rfl, rfl⟩) hHeld ?_
      try simp only [Act.put, List.setIfInBounds_toArray, List.set_cons_zero, List.set_cons_succ]
      refine wpAnyH_take (i := 26) (oi := { dst := some 56, op := Op.move (Operand.tmp 5), type := 2, pos := "laws.go:322", after := #[{ on := 23, ground := Ground.guard }], guard := some (23, true) }) (v := undef) rfl (by kernel_rfl) (by kernel_rfl) (by kernel_rfl) (fun _ _ _ h => h) (Or.inr ⟨by rfl, rfl⟩) hHeld ?_
      try simp only [Act.put, List.setIfInBounds_toArray, List.set_cons_zero, List.set_cons_succ]
      refine wpAnyH_take (i := 27) (oi := { dst := some 57, op := Op.binOp BinOp.neq 2 (Operand.tmp 55) (Operand.tmp 56) 2, type := 4, pos := "laws.go:322", after := #[{ on := 25, ground := Ground.data }, { on := 26, ground := Ground.data }, { on := 23, ground := Ground.guard }], guard := some (23, true) }) (v := undef) rfl (by kernel_rfl) (by kernel_rfl) (by kernel_rfl) (fun _ _ _ h => h) (Or.inr ⟨by rfl, rfl⟩) hHeld ?_
      try simp only [Act.put, List.setIfInBounds_toArray, List.set_cons_zero, List.set_cons_succ]
      refine wpAnyH_take (i := 28) (oi := { dst := some 58, op := Op.pick (Operand.tmp 53) (Operand.tmp 57) (Operand.const (Value.bool false)), type := 4, pos := "laws.go:322", after := #[{ on := 23, ground := Ground.data }, { on := 27, ground := Ground.data }, { on := 21, ground := Ground.guard }], guard := some (21, false) }) (v := ?vb128) rfl (by kernel_rfl) (by kernel_rfl) (by kernel_rfl) (fun _ _ _ h => h) (Or.inl ⟨by rfl, ?hb128⟩) hHeld ?rb128
      case hb128 => intro w hSw; (try dsimp only at hSw); go_simp; try with_reducible rfl
      try simp only [Act.put, List.setIfInBounds_toArray, List.set_cons_zero, List.set_cons_succ]
      refine wpAnyH_take (i := 29) (oi := { dst := some 59, op := Op.pick (Operand.tmp 51) (Operand.const (Value.bool true)) (Operand.tmp 58), type := 4, pos := "laws.go:322", after := #[{ on := 21, ground := Ground.data }, { on := 28, ground := Ground.data }], guard := none }) (v := ?vb129) rfl (by kernel_rfl) (by kernel_rfl) (by kernel_rfl) (fun _ _ _ h => h) (Or.inl ⟨by rfl, ?hb129⟩) hHeld ?rb129
      case hb129 => intro w hSw; (try dsimp only at hSw); go_simp; try with_reducible rfl
      try simp only [Act.put, List.setIfInBounds_toArray, List.set_cons_zero, List.set_cons_succ]
      refine wpAnyH_done (by kernel_rfl) ?_ _
      have HU12 : Hid (Bun w w12 w1.heap.size w4.heap.size w5.heap.size t g s D) := hHeld.2.2.2.2.2.2.2.2.2
      clear hHeld
      obtain rfl : m = -1 := HM1.out
      obtain ⟨c0, c1, c2⟩ := Blk.cells3 HU12.out.a
      go_wp2_with fail
      refine (HS.out _).mono ?_
      rintro e w20 ⟨rfl, hb20⟩
      have HU20 := Bun.step HU12 hb20
      clear hb20 c0 c1 c2
      go_wp2
      go_ret
      exact ⟨rfl, HU20.out.e⟩
    · rw [hb] at HI HS
      have hp := num_pos hb
      have hk := num_back hb
      rw [← HM.out] at hp hk
      have HBK : Hid (∀ w' : World, Calls Try.prog 13 #[.int .i64 m] w' (RetTB w' ⟨t, g, s⟩ true)) := Lib.hid (fun w' => by have := TickI.ticketOf w' (n := m) (by unfold I64; omega); rwa [hk.1, hk.2] at this)
      have HM1 : Hid (0 < m) := Lib.hid (by omega)
      clear hp hk
      clear hb
      go_wp2_with fail
      refine wp_region_held_drew (S := (fun w' => w'.cell? ⟨w1.heap.size, 0, none⟩ = some (.int .i64 t) ∧ w'.cell? ⟨w1.heap.size, 1, none⟩ = some (.int .i64 g) ∧ w'.cell? ⟨w1.heap.size, 2, none⟩ = some (.int .i64 s) ∧ w'.cell? ⟨w4.heap.size, 0, none⟩ = some (.int .i64 D.t) ∧ w'.cell? ⟨w4.heap.size, 1, none⟩ = some (.int .i64 D.g) ∧ w'.cell? ⟨w4.heap.size, 2, none⟩ = some (.int .i64 D.s) ∧ w'.cell? ⟨w5.heap.size, 0, none⟩ = some (.int .i64 D.t) ∧ w'.cell? ⟨w5.heap.size, 1, none⟩ = some (.int .i64 D.g) ∧ w'.cell? ⟨w5.heap.size, 2, none⟩ = some (.int .i64 D.s) ∧ Hid (Bun w w' w1.heap.size w4.heap.size w5.heap.size t g s D))) (by kernel_rfl) ?_ (fun hHeld => ?_)
      · exact Bun.cells (Bun.step HU (below_drew _))
      refine wpAnyH_take (i := 0) (oi := { dst := some 30, op := Op.move (Operand.tmp 4), type := 2, pos := "laws.go:322", after := #[], guard := none }) (v := ?vc20) rfl (by kernel_rfl) (by kernel_rfl) (by kernel_rfl) (fun _ _ _ h => h) (Or.inl ⟨by rfl, ?hc20⟩) hHeld ?rc20
      case hc20 => intro w hSw; (try dsimp only at hSw); go_simp; try with_reducible rfl
      try simp only [Act.put, List.setIfInBounds_toArray, List.set_cons_zero, List.set_cons_succ]
      refine wpAnyH_take (i := 1) (oi := { dst := some 31, op := Op.load 25 (Operand.tmp 3), type := 25, pos := "laws.go:322", after := #[], guard := none }) (v := ?vc21) rfl (by kernel_rfl) (by kernel_rfl) (by kernel_rfl) (fun _ _ _ h => h) (Or.inl ⟨by rfl, ?hc21⟩) hHeld ?rc21
      case hc21 => intro w hSw; (try dsimp only at hSw); go_simp; try with_reducible rfl
      try simp only [Act.put, List.setIfInBounds_toArray, List.set_cons_zero, List.set_cons_succ]
      refine wpAnyH_ready (rs := [2]) (by kernel_rfl) (by simp) ?_
      refine AllReadyH.cons (o := { dst := some 32, op := Op.call { callee := Callee.value (Operand.func 15), args := #[Operand.tmp 31], argTypes := #[25] }, type := 2, pos := "laws.go:322", after := #[{ on := 1, ground := Ground.data }], guard := none }) rfl (fun K hK => ?_) AllReadyH.nil
      go_simp
      refine (HNS.out _).mono ?_
      rintro e w10 ⟨rfl, hb9⟩
      try go_wp2_with fail
      refine hK.out _ _ ?_ (fun hNew => ?_)
      · exact Bun.cells (Bun.step hHeld.2.2.2.2.2.2.2.2.2 hb9)
      clear hHeld hb9
      have hHeld := hNew
      clear hNew
      clear hK K
      try simp only [Act.put, List.setIfInBounds_toArray, List.set_cons_zero, List.set_cons_succ]
      refine wpAnyH_take (i := 3) (oi := { dst := some 33, op := Op.binOp BinOp.neq 2 (Operand.tmp 30) (Operand.tmp 32) 2, type := 4, pos := "laws.go:322", after := #[{ on := 0, ground := Ground.data }, { on := 2, ground := Ground.data }], guard := none }) (v := ?vc23) rfl (by kernel_rfl) (by kernel_rfl) (by kernel_rfl) (fun _ _ _ h => h) (Or.inl ⟨by rfl, ?hc23⟩) hHeld ?rc23
      case hc23 => intro w hSw; (try dsimp only at hSw); go_simp; try with_reducible rfl
      try simp only [Act.put, List.setIfInBounds_toArray, List.set_cons_zero, List.set_cons_succ]
      refine wpAnyH_take (i := 4) (oi := { dst := some 34, op := Op.move (Operand.tmp 33), type := 4, pos := "laws.go:322", after := #[{ on := 3, ground := Ground.data }, { on := 2, ground := Ground.chain }], guard := none }) (v := ?vc24) rfl (by kernel_rfl) (by kernel_rfl) (by kernel_rfl) (fun _ _ _ h => h) (Or.inl ⟨by rfl, ?hc24⟩) hHeld ?rc24
      case hc24 => intro w hSw; (try dsimp only at hSw); go_simp; try with_reducible rfl
      try simp only [Act.put, List.setIfInBounds_toArray, List.set_cons_zero, List.set_cons_succ]
      refine wpAnyH_take (i := 5) (oi := { dst := some 35, op := Op.load 25 (Operand.tmp 6), type := 25, pos := "laws.go:322", after := #[{ on := 4, ground := Ground.guard }], guard := some (4, false) }) (v := ?vc25) rfl (by kernel_rfl) (by kernel_rfl) (by kernel_rfl) (fun _ _ _ h => h) (Or.inl ⟨by rfl, ?hc25⟩) hHeld ?rc25
      case hc25 => intro w hSw; (try dsimp only at hSw); go_simp; try with_reducible rfl
      try simp only [Act.put, List.setIfInBounds_toArray, List.set_cons_zero, List.set_cons_succ]
      refine wpAnyH_take (i := 6) (oi := { dst := some 36, op := Op.load 25 (Operand.tmp 8), type := 25, pos := "laws.go:322", after := #[{ on := 4, ground := Ground.guard }], guard := some (4, false) }) (v := ?vc26) rfl (by kernel_rfl) (by kernel_rfl) (by kernel_rfl) (fun _ _ _ h => h) (Or.inl ⟨by rfl, ?hc26⟩) hHeld ?rc26
      case hc26 => intro w hSw; (try dsimp only at hSw); go_simp; try with_reducible rfl
      try simp only [Act.put, List.setIfInBounds_toArray, List.set_cons_zero, List.set_cons_succ]
      refine wpAnyH_take (i := 7) (oi := { dst := some 37, op := Op.binOp BinOp.neq 25 (Operand.tmp 35) (Operand.tmp 36) 25, type := 4, pos := "laws.go:322", after := #[{ on := 5, ground := Ground.data }, { on := 6, ground := Ground.data }, { on := 4, ground := Ground.guard }], guard := some (4, false) }) (v := ?vc27) rfl (by kernel_rfl) (by kernel_rfl) (by kernel_rfl) (fun _ _ _ h => h) (Or.inl ⟨by rfl, ?hc27⟩) hHeld ?rc27
      case hc27 => intro w hSw; (try dsimp only at hSw); go_simp; try with_reducible rfl
      try simp only [Act.put, List.setIfInBounds_toArray, List.set_cons_zero, List.set_cons_succ]
      refine wpAnyH_take (i := 8) (oi := { dst := some 38, op := Op.pick (Operand.tmp 34) (Operand.const (Value.bool true)) (Operand.tmp 37), type := 4, pos := "laws.go:322", after := #[{ on := 4, ground := Ground.data }, { on := 7, ground := Ground.data }], guard := none }) (v := ?vc28) rfl (by kernel_rfl) (by kernel_rfl) (by kernel_rfl) (fun _ _ _ h => h) (Or.inl ⟨by rfl, ?hc28⟩) hHeld ?rc28
      case hc28 => intro w hSw; (try dsimp only at hSw); go_simp; try with_reducible rfl
      try simp only [Act.put, List.setIfInBounds_toArray, List.set_cons_zero, List.set_cons_succ]
      refine wpAnyH_take (i := 9) (oi := { dst := some 39, op := Op.move (Operand.tmp 38), type := 4, pos := "laws.go:322", after := #[{ on := 8, ground := Ground.data }, { on := 4, ground := Ground.chain }], guard := none }) (v := ?vc29) rfl (by kernel_rfl) (by kernel_rfl) (by kernel_rfl) (fun _ _ _ h => h) (Or.inl ⟨by rfl, ?hc29⟩) hHeld ?rc29
      case hc29 => intro w hSw; (try dsimp only at hSw); go_simp; try with_reducible rfl
      try simp only [Act.put, List.setIfInBounds_toArray, List.set_cons_zero, List.set_cons_succ]
      refine wpAnyH_take (i := 10) (oi := { dst := some 40, op := Op.move (Operand.tmp 7), type := 4, pos := "laws.go:322", after := #[{ on := 9, ground := Ground.guard }], guard := some (9, false) }) (v := ?vc210) rfl (by kernel_rfl) (by kernel_rfl) (by kernel_rfl) (fun _ _ _ h => h) (Or.inl ⟨by rfl, ?hc210⟩) hHeld ?rc210
      case hc210 => intro w hSw; (try dsimp only at hSw); go_simp; try with_reducible rfl
      try simp only [Act.put, List.setIfInBounds_toArray, List.set_cons_zero, List.set_cons_succ]
      refine wpAnyH_take (i := 11) (oi := { dst := some 41, op := Op.move (Operand.tmp 9), type := 4, pos := "laws.go:322", after := #[{ on := 9, ground := Ground.guard }], guard := some (9, false) }) (v := ?vc211) rfl (by kernel_rfl) (by kernel_rfl) (by kernel_rfl) (fun _ _ _ h => h) (Or.inl ⟨by rfl, ?hc211⟩) hHeld ?rc211
      case hc211 => intro w hSw; (try dsimp only at hSw); go_simp; try with_reducible rfl
      try simp only [Act.put, List.setIfInBounds_toArray, List.set_cons_zero, List.set_cons_succ]
      refine wpAnyH_take (i := 12) (oi := { dst := some 42, op := Op.binOp BinOp.neq 4 (Operand.tmp 40) (Operand.tmp 41) 4, type := 4, pos := "laws.go:322", after := #[{ on := 10, ground := Ground.data }, { on := 11, ground := Ground.data }, { on := 9, ground := Ground.guard }], guard := some (9, false) }) (v := ?vc212) rfl (by kernel_rfl) (by kernel_rfl) (by kernel_rfl) (fun _ _ _ h => h) (Or.inl ⟨by rfl, ?hc212⟩) hHeld ?rc212
      case hc212 => intro w hSw; (try dsimp only at hSw); go_simp; try with_reducible rfl
      try simp only [Act.put, List.setIfInBounds_toArray, List.set_cons_zero, List.set_cons_succ]
      refine wpAnyH_take (i := 13) (oi := { dst := some 43, op := Op.pick (Operand.tmp 39) (Operand.const (Value.bool true)) (Operand.tmp 42), type := 4, pos := "laws.go:322", after := #[{ on := 9, ground := Ground.data }, { on := 12, ground := Ground.data }], guard := none }) (v := ?vc213) rfl (by kernel_rfl) (by kernel_rfl) (by kernel_rfl) (fun _ _ _ h => h) (Or.inl ⟨by rfl, ?hc213⟩) hHeld ?rc213
      case hc213 => intro w hSw; (try dsimp only at hSw); go_simp; try with_reducible rfl
      try simp only [Act.put, List.setIfInBounds_toArray, List.set_cons_zero, List.set_cons_succ]
      refine wpAnyH_take (i := 14) (oi := { dst := some 44, op := Op.move (Operand.tmp 43), type := 4, pos := "laws.go:322", after := #[{ on := 13, ground := Ground.data }, { on := 9, ground := Ground.chain }], guard := none }) (v := ?vc214) rfl (by kernel_rfl) (by kernel_rfl) (by kernel_rfl) (fun _ _ _ h => h) (Or.inl ⟨by rfl, ?hc214⟩) hHeld ?rc214
      case hc214 => intro w hSw; (try dsimp only at hSw); go_simp; try with_reducible rfl
      try simp only [Act.put, List.setIfInBounds_toArray, List.set_cons_zero, List.set_cons_succ]
      refine wpAnyH_take (i := 15) (oi := { dst := some 45, op := Op.load 25 (Operand.tmp 3), type := 25, pos := "laws.go:322", after := #[{ on := 14, ground := Ground.guard }], guard := some (14, false) }) (v := ?vc215) rfl (by kernel_rfl) (by kernel_rfl) (by kernel_rfl) (fun _ _ _ h => h) (Or.inl ⟨by rfl, ?hc215⟩) hHeld ?rc215
      case hc215 => intro w hSw; (try dsimp only at hSw); go_simp; try with_reducible rfl
      try simp only [Act.put, List.setIfInBounds_toArray, List.set_cons_zero, List.set_cons_succ]
      refine wpAnyH_take (i := 17) (oi := { dst := some 47, op := Op.load 25 (Operand.tmp 3), type := 25, pos := "laws.go:322", after := #[{ on := 14, ground := Ground.guard }], guard := some (14, false) }) (v := ?vc217) rfl (by kernel_rfl) (by kernel_rfl) (by kernel_rfl) (fun _ _ _ h => h) (Or.inl ⟨by rfl, ?hc217⟩) hHeld ?rc217
      case hc217 => intro w hSw; (try dsimp only at hSw); go_simp; try with_reducible rfl
      try simp only [Act.put, List.setIfInBounds_toArray, List.set_cons_zero, List.set_cons_succ]
      refine wpAnyH_ready (rs := [16]) (by kernel_rfl) (by simp) ?_
      refine AllReadyH.cons (o := { dst := some 46, op := Op.call { callee := Callee.value (Operand.func 16), args := #[Operand.tmp 45], argTypes := #[25] }, type := 4, pos := "laws.go:322", after := #[{ on := 15, ground := Ground.data }, { on := 14, ground := Ground.chain }, { on := 14, ground := Ground.guard }], guard := some (14, false) }) rfl (fun K hK => ?_) AllReadyH.nil
      go_simp
      refine (HI.out _).mono ?_
      rintro e w11 ⟨rfl, hb9⟩
      try go_wp2_with fail
      refine hK.out _ _ ?_ (fun hNew => ?_)
      · exact Bun.cells (Bun.step hHeld.2.2.2.2.2.2.2.2.2 hb9)
      clear hHeld hb9
      have hHeld := hNew
      clear hNew
      clear hK K
      try simp only [Act.put, List.setIfInBounds_toArray, List.set_cons_zero, List.set_cons_succ]
      refine wpAnyH_ready (rs := [18]) (by kernel_rfl) (by simp) ?_
      refine AllReadyH.cons (o := { dst := some 48, op := Op.call { callee := Callee.value (Operand.func 17), args := #[Operand.tmp 47], argTypes := #[25] }, type := 4, pos := "laws.go:322", after := #[{ on := 17, ground := Ground.data }, { on := 16, ground := Ground.chain }, { on := 14, ground := Ground.guard }], guard := some (14, false) }) rfl (fun K hK => ?_) AllReadyH.nil
      go_simp
      refine (HS.out _).mono ?_
      rintro e w12 ⟨rfl, hb9⟩
      try go_wp2_with fail
      refine hK.out _ _ ?_ (fun hNew => ?_)
      · exact Bun.cells (Bun.step hHeld.2.2.2.2.2.2.2.2.2 hb9)
      clear hHeld hb9
      have hHeld := hNew
      clear hNew
      clear hK K
      try simp only [Act.put, List.setIfInBounds_toArray, List.set_cons_zero, List.set_cons_succ]
      refine wpAnyH_take (i := 19) (oi := { dst := some 49, op := Op.binOp BinOp.neq 4 (Operand.tmp 46) (Operand.tmp 48) 4, type := 4, pos := "laws.go:322", after := #[{ on := 16, ground := Ground.data }, { on := 18, ground := Ground.data }, { on := 14, ground := Ground.guard }], guard := some (14, false) }) (v := ?vc219) rfl (by kernel_rfl) (by kernel_rfl) (by kernel_rfl) (fun _ _ _ h => h) (Or.inl ⟨by rfl, ?hc219⟩) hHeld ?rc219
      case hc219 => intro w hSw; (try dsimp only at hSw); go_simp; try with_reducible rfl
      try simp only [Act.put, List.setIfInBounds_toArray, List.set_cons_zero, List.set_cons_succ]
      refine wpAnyH_take (i := 20) (oi := { dst := some 50, op := Op.pick (Operand.tmp 44) (Operand.const (Value.bool true)) (Operand.tmp 49), type := 4, pos := "laws.go:322", after := #[{ on := 14, ground := Ground.data }, { on := 19, ground := Ground.data }], guard := none }) (v := ?vc220) rfl (by kernel_rfl) (by kernel_rfl) (by kernel_rfl) (fun _ _ _ h => h) (Or.inl ⟨by rfl, ?hc220⟩) hHeld ?rc220
      case hc220 => intro w hSw; (try dsimp only at hSw); go_simp; try with_reducible rfl
      try simp only [Act.put, List.setIfInBounds_toArray, List.set_cons_zero, List.set_cons_succ]
      refine wpAnyH_take (i := 21) (oi := { dst := some 51, op := Op.move (Operand.tmp 50), type := 4, pos := "laws.go:322", after := #[{ on := 20, ground := Ground.data }, { on := 18, ground := Ground.chain }], guard := none }) (v := ?vc221) rfl (by kernel_rfl) (by kernel_rfl) (by kernel_rfl) (fun _ _ _ h => h) (Or.inl ⟨by rfl, ?hc221⟩) hHeld ?rc221
      case hc221 => intro w hSw; (try dsimp only at hSw); go_simp; try with_reducible rfl
      try simp only [Act.put, List.setIfInBounds_toArray, List.set_cons_zero, List.set_cons_succ]
      refine wpAnyH_take (i := 22) (oi := { dst := some 52, op := Op.move (Operand.tmp 7), type := 4, pos := "laws.go:322", after := #[{ on := 21, ground := Ground.guard }], guard := some (21, false) }) (v := ?vc222) rfl (by kernel_rfl) (by kernel_rfl) (by kernel_rfl) (fun _ _ _ h => h) (Or.inl ⟨by rfl, ?hc222⟩) hHeld ?rc222
      case hc222 => intro w hSw; (try dsimp only at hSw); go_simp; try with_reducible rfl
      try simp only [Act.put, List.setIfInBounds_toArray, List.set_cons_zero, List.set_cons_succ]
      refine wpAnyH_take (i := 23) (oi := { dst := some 53, op := Op.move (Operand.tmp 52), type := 4, pos := "laws.go:322", after := #[{ on := 22, ground := Ground.data }, { on := 21, ground := Ground.chain }, { on := 21, ground := Ground.guard }], guard := some (21, false) }) (v := ?vc223) rfl (by kernel_rfl) (by kernel_rfl) (by kernel_rfl) (fun _ _ _ h => h) (Or.inl ⟨by rfl, ?hc223⟩) hHeld ?rc223
      case hc223 => intro w hSw; (try dsimp only at hSw); go_simp; try with_reducible rfl
      try simp only [Act.put, List.setIfInBounds_toArray, List.set_cons_zero, List.set_cons_succ]
      refine wpAnyH_take (i := 24) (oi := { dst := some 54, op := Op.load 25 (Operand.tmp 6), type := 25, pos := "laws.go:322", after := #[{ on := 23, ground := Ground.guard }], guard := some (23, true) }) (v := undef) rfl (by kernel_rfl) (by kernel_rfl) (by kernel_rfl) (fun _ _ _ h => h) (Or.inr ⟨by rfl, rfl⟩) hHeld ?_
      try simp only [Act.put, List.setIfInBounds_toArray, List.set_cons_zero, List.set_cons_succ]
      refine wpAnyH_take (i := 25) (oi := { dst := some 55, op := Op.call { callee := Callee.value (Operand.func 11), args := #[Operand.tmp 54], argTypes := #[25] }, type := 2, pos := "laws.go:322", after := #[{ on := 24, ground := Ground.data }, { on := 23, ground := Ground.chain }, { on := 23, ground := Ground.guard }], guard := some (23, true) }) (v := undef) rfl (by kernel_rfl) (by kernel_rfl) (by kernel_rfl) (fun _ _ _ h => h) (Or.inr ⟨by rfl, rfl⟩) hHeld ?_
      try simp only [Act.put, List.setIfInBounds_toArray, List.set_cons_zero, List.set_cons_succ]
      refine wpAnyH_take (i := 26) (oi := { dst := some 56, op := Op.move (Operand.tmp 5), type := 2, pos := "laws.go:322", after := #[{ on := 23, ground := Ground.guard }], guard := some (23, true) }) (v := undef) rfl (by kernel_rfl) (by kernel_rfl) (by kernel_rfl) (fun _ _ _ h => h) (Or.inr ⟨by rfl, rfl⟩) hHeld ?_
      try simp only [Act.put, List.setIfInBounds_toArray, List.set_cons_zero, List.set_cons_succ]
      refine wpAnyH_take (i := 27) (oi := { dst := some 57, op := Op.binOp BinOp.neq 2 (Operand.tmp 55) (Operand.tmp 56) 2, type := 4, pos := "laws.go:322", after := #[{ on := 25, ground := Ground.data }, { on := 26, ground := Ground.data }, { on := 23, ground := Ground.guard }], guard := some (23, true) }) (v := undef) rfl (by kernel_rfl) (by kernel_rfl) (by kernel_rfl) (fun _ _ _ h => h) (Or.inr ⟨by rfl, rfl⟩) hHeld ?_
      try simp only [Act.put, List.setIfInBounds_toArray, List.set_cons_zero, List.set_cons_succ]
      refine wpAnyH_take (i := 28) (oi := { dst := some 58, op := Op.pick (Operand.tmp 53) (Operand.tmp 57) (Operand.const (Value.bool false)), type := 4, pos := "laws.go:322", after := #[{ on := 23, ground := Ground.data }, { on := 27, ground := Ground.data }, { on := 21, ground := Ground.guard }], guard := some (21, false) }) (v := ?vc228) rfl (by kernel_rfl) (by kernel_rfl) (by kernel_rfl) (fun _ _ _ h => h) (Or.inl ⟨by rfl, ?hc228⟩) hHeld ?rc228
      case hc228 => intro w hSw; (try dsimp only at hSw); go_simp; try with_reducible rfl
      try simp only [Act.put, List.setIfInBounds_toArray, List.set_cons_zero, List.set_cons_succ]
      refine wpAnyH_take (i := 29) (oi := { dst := some 59, op := Op.pick (Operand.tmp 51) (Operand.const (Value.bool true)) (Operand.tmp 58), type := 4, pos := "laws.go:322", after := #[{ on := 21, ground := Ground.data }, { on := 28, ground := Ground.data }], guard := none }) (v := ?vc229) rfl (by kernel_rfl) (by kernel_rfl) (by kernel_rfl) (fun _ _ _ h => h) (Or.inl ⟨by rfl, ?hc229⟩) hHeld ?rc229
      case hc229 => intro w hSw; (try dsimp only at hSw); go_simp; try with_reducible rfl
      try simp only [Act.put, List.setIfInBounds_toArray, List.set_cons_zero, List.set_cons_succ]
      refine wpAnyH_done (by kernel_rfl) ?_ _
      have HU12 : Hid (Bun w w12 w1.heap.size w4.heap.size w5.heap.size t g s D) := hHeld.2.2.2.2.2.2.2.2.2
      clear hHeld
      have hm0 := HM1.out
      obtain ⟨c0, c1, c2⟩ := Blk.cells3 HU12.out.a
      go_wp2_with fail
      refine (HBK.out _).mono ?_
      rintro e w20 ⟨rfl, hb20⟩
      have HU20 := Bun.step HU12 hb20
      have hlt := HU20.out.a.lt
      clear hb20 c0 c1 c2
      obtain ⟨c0, c1, c2⟩ := Blk.cells3 HU20.out.a
      go_wp2
      go_ret
      exact ⟨by first | rfl | simp, HU20.out.e.alloc HU20.out.e.size _⟩
  · have HND : Hid (∀ w' : World, Calls Try.prog 11 #[.agg #[.int .i64 D.t, .int .i64 D.g, .int .i64 D.s]] w' (RetV w' (.int .i64 k))) := Lib.hid (fun w' => by have := TickI.numberOf w' (t := D.t) (g := D.g) (s := D.s); rwa [HD.out, at_num HX.out.symm, ← HD.out] at this)
    cases hb : tickB t g s
    · rw [hb] at HI HS
      have HM1 : Hid (m = -1) := Lib.hid (by rw [HM.out]; unfold numT; rw [hb]; rfl)
      clear hb
      go_wp2_with fail
      refine wp_region_held_drew (S := (fun w' => w'.cell? ⟨w1.heap.size, 0, none⟩ = some (.int .i64 t) ∧ w'.cell? ⟨w1.heap.size, 1, none⟩ = some (.int .i64 g) ∧ w'.cell? ⟨w1.heap.size, 2, none⟩ = some (.int .i64 s) ∧ w'.cell? ⟨w4.heap.size, 0, none⟩ = some (.int .i64 D.t) ∧ w'.cell? ⟨w4.heap.size, 1, none⟩ = some (.int .i64 D.g) ∧ w'.cell? ⟨w4.heap.size, 2, none⟩ = some (.int .i64 D.s) ∧ w'.cell? ⟨w5.heap.size, 0, none⟩ = some (.int .i64 D.t) ∧ w'.cell? ⟨w5.heap.size, 1, none⟩ = some (.int .i64 D.g) ∧ w'.cell? ⟨w5.heap.size, 2, none⟩ = some (.int .i64 D.s) ∧ Hid (Bun w w' w1.heap.size w4.heap.size w5.heap.size t g s D))) (by kernel_rfl) ?_ (fun hHeld => ?_)
      · exact Bun.cells (Bun.step HU (below_drew _))
      refine wpAnyH_take (i := 0) (oi := { dst := some 30, op := Op.move (Operand.tmp 4), type := 2, pos := "laws.go:322", after := #[], guard := none }) (v := ?vd30) rfl (by kernel_rfl) (by kernel_rfl) (by kernel_rfl) (fun _ _ _ h => h) (Or.inl ⟨by rfl, ?hd30⟩) hHeld ?rd30
      case hd30 => intro w hSw; (try dsimp only at hSw); go_simp; try with_reducible rfl
      try simp only [Act.put, List.setIfInBounds_toArray, List.set_cons_zero, List.set_cons_succ]
      refine wpAnyH_take (i := 1) (oi := { dst := some 31, op := Op.load 25 (Operand.tmp 3), type := 25, pos := "laws.go:322", after := #[], guard := none }) (v := ?vd31) rfl (by kernel_rfl) (by kernel_rfl) (by kernel_rfl) (fun _ _ _ h => h) (Or.inl ⟨by rfl, ?hd31⟩) hHeld ?rd31
      case hd31 => intro w hSw; (try dsimp only at hSw); go_simp; try with_reducible rfl
      try simp only [Act.put, List.setIfInBounds_toArray, List.set_cons_zero, List.set_cons_succ]
      refine wpAnyH_ready (rs := [2]) (by kernel_rfl) (by simp) ?_
      refine AllReadyH.cons (o := { dst := some 32, op := Op.call { callee := Callee.value (Operand.func 15), args := #[Operand.tmp 31], argTypes := #[25] }, type := 2, pos := "laws.go:322", after := #[{ on := 1, ground := Ground.data }], guard := none }) rfl (fun K hK => ?_) AllReadyH.nil
      go_simp
      refine (HNS.out _).mono ?_
      rintro e w10 ⟨rfl, hb9⟩
      try go_wp2_with fail
      refine hK.out _ _ ?_ (fun hNew => ?_)
      · exact Bun.cells (Bun.step hHeld.2.2.2.2.2.2.2.2.2 hb9)
      clear hHeld hb9
      have hHeld := hNew
      clear hNew
      clear hK K
      try simp only [Act.put, List.setIfInBounds_toArray, List.set_cons_zero, List.set_cons_succ]
      refine wpAnyH_take (i := 3) (oi := { dst := some 33, op := Op.binOp BinOp.neq 2 (Operand.tmp 30) (Operand.tmp 32) 2, type := 4, pos := "laws.go:322", after := #[{ on := 0, ground := Ground.data }, { on := 2, ground := Ground.data }], guard := none }) (v := ?vd33) rfl (by kernel_rfl) (by kernel_rfl) (by kernel_rfl) (fun _ _ _ h => h) (Or.inl ⟨by rfl, ?hd33⟩) hHeld ?rd33
      case hd33 => intro w hSw; (try dsimp only at hSw); go_simp; try with_reducible rfl
      try simp only [Act.put, List.setIfInBounds_toArray, List.set_cons_zero, List.set_cons_succ]
      refine wpAnyH_take (i := 4) (oi := { dst := some 34, op := Op.move (Operand.tmp 33), type := 4, pos := "laws.go:322", after := #[{ on := 3, ground := Ground.data }, { on := 2, ground := Ground.chain }], guard := none }) (v := ?vd34) rfl (by kernel_rfl) (by kernel_rfl) (by kernel_rfl) (fun _ _ _ h => h) (Or.inl ⟨by rfl, ?hd34⟩) hHeld ?rd34
      case hd34 => intro w hSw; (try dsimp only at hSw); go_simp; try with_reducible rfl
      try simp only [Act.put, List.setIfInBounds_toArray, List.set_cons_zero, List.set_cons_succ]
      refine wpAnyH_take (i := 5) (oi := { dst := some 35, op := Op.load 25 (Operand.tmp 6), type := 25, pos := "laws.go:322", after := #[{ on := 4, ground := Ground.guard }], guard := some (4, false) }) (v := ?vd35) rfl (by kernel_rfl) (by kernel_rfl) (by kernel_rfl) (fun _ _ _ h => h) (Or.inl ⟨by rfl, ?hd35⟩) hHeld ?rd35
      case hd35 => intro w hSw; (try dsimp only at hSw); go_simp; try with_reducible rfl
      try simp only [Act.put, List.setIfInBounds_toArray, List.set_cons_zero, List.set_cons_succ]
      refine wpAnyH_take (i := 6) (oi := { dst := some 36, op := Op.load 25 (Operand.tmp 8), type := 25, pos := "laws.go:322", after := #[{ on := 4, ground := Ground.guard }], guard := some (4, false) }) (v := ?vd36) rfl (by kernel_rfl) (by kernel_rfl) (by kernel_rfl) (fun _ _ _ h => h) (Or.inl ⟨by rfl, ?hd36⟩) hHeld ?rd36
      case hd36 => intro w hSw; (try dsimp only at hSw); go_simp; try with_reducible rfl
      try simp only [Act.put, List.setIfInBounds_toArray, List.set_cons_zero, List.set_cons_succ]
      refine wpAnyH_take (i := 7) (oi := { dst := some 37, op := Op.binOp BinOp.neq 25 (Operand.tmp 35) (Operand.tmp 36) 25, type := 4, pos := "laws.go:322", after := #[{ on := 5, ground := Ground.data }, { on := 6, ground := Ground.data }, { on := 4, ground := Ground.guard }], guard := some (4, false) }) (v := ?vd37) rfl (by kernel_rfl) (by kernel_rfl) (by kernel_rfl) (fun _ _ _ h => h) (Or.inl ⟨by rfl, ?hd37⟩) hHeld ?rd37
      case hd37 => intro w hSw; (try dsimp only at hSw); go_simp; try with_reducible rfl
      try simp only [Act.put, List.setIfInBounds_toArray, List.set_cons_zero, List.set_cons_succ]
      refine wpAnyH_take (i := 8) (oi := { dst := some 38, op := Op.pick (Operand.tmp 34) (Operand.const (Value.bool true)) (Operand.tmp 37), type := 4, pos := "laws.go:322", after := #[{ on := 4, ground := Ground.data }, { on := 7, ground := Ground.data }], guard := none }) (v := ?vd38) rfl (by kernel_rfl) (by kernel_rfl) (by kernel_rfl) (fun _ _ _ h => h) (Or.inl ⟨by rfl, ?hd38⟩) hHeld ?rd38
      case hd38 => intro w hSw; (try dsimp only at hSw); go_simp; try with_reducible rfl
      try simp only [Act.put, List.setIfInBounds_toArray, List.set_cons_zero, List.set_cons_succ]
      refine wpAnyH_take (i := 9) (oi := { dst := some 39, op := Op.move (Operand.tmp 38), type := 4, pos := "laws.go:322", after := #[{ on := 8, ground := Ground.data }, { on := 4, ground := Ground.chain }], guard := none }) (v := ?vd39) rfl (by kernel_rfl) (by kernel_rfl) (by kernel_rfl) (fun _ _ _ h => h) (Or.inl ⟨by rfl, ?hd39⟩) hHeld ?rd39
      case hd39 => intro w hSw; (try dsimp only at hSw); go_simp; try with_reducible rfl
      try simp only [Act.put, List.setIfInBounds_toArray, List.set_cons_zero, List.set_cons_succ]
      refine wpAnyH_take (i := 10) (oi := { dst := some 40, op := Op.move (Operand.tmp 7), type := 4, pos := "laws.go:322", after := #[{ on := 9, ground := Ground.guard }], guard := some (9, false) }) (v := ?vd310) rfl (by kernel_rfl) (by kernel_rfl) (by kernel_rfl) (fun _ _ _ h => h) (Or.inl ⟨by rfl, ?hd310⟩) hHeld ?rd310
      case hd310 => intro w hSw; (try dsimp only at hSw); go_simp; try with_reducible rfl
      try simp only [Act.put, List.setIfInBounds_toArray, List.set_cons_zero, List.set_cons_succ]
      refine wpAnyH_take (i := 11) (oi := { dst := some 41, op := Op.move (Operand.tmp 9), type := 4, pos := "laws.go:322", after := #[{ on := 9, ground := Ground.guard }], guard := some (9, false) }) (v := ?vd311) rfl (by kernel_rfl) (by kernel_rfl) (by kernel_rfl) (fun _ _ _ h => h) (Or.inl ⟨by rfl, ?hd311⟩) hHeld ?rd311
      case hd311 => intro w hSw; (try dsimp only at hSw); go_simp; try with_reducible rfl
      try simp only [Act.put, List.setIfInBounds_toArray, List.set_cons_zero, List.set_cons_succ]
      refine wpAnyH_take (i := 12) (oi := { dst := some 42, op := Op.binOp BinOp.neq 4 (Operand.tmp 40) (Operand.tmp 41) 4, type := 4, pos := "laws.go:322", after := #[{ on := 10, ground := Ground.data }, { on := 11, ground := Ground.data }, { on := 9, ground := Ground.guard }], guard := some (9, false) }) (v := ?vd312) rfl (by kernel_rfl) (by kernel_rfl) (by kernel_rfl) (fun _ _ _ h => h) (Or.inl ⟨by rfl, ?hd312⟩) hHeld ?rd312
      case hd312 => intro w hSw; (try dsimp only at hSw); go_simp; try with_reducible rfl
      try simp only [Act.put, List.setIfInBounds_toArray, List.set_cons_zero, List.set_cons_succ]
      refine wpAnyH_take (i := 13) (oi := { dst := some 43, op := Op.pick (Operand.tmp 39) (Operand.const (Value.bool true)) (Operand.tmp 42), type := 4, pos := "laws.go:322", after := #[{ on := 9, ground := Ground.data }, { on := 12, ground := Ground.data }], guard := none }) (v := ?vd313) rfl (by kernel_rfl) (by kernel_rfl) (by kernel_rfl) (fun _ _ _ h => h) (Or.inl ⟨by rfl, ?hd313⟩) hHeld ?rd313
      case hd313 => intro w hSw; (try dsimp only at hSw); go_simp; try with_reducible rfl
      try simp only [Act.put, List.setIfInBounds_toArray, List.set_cons_zero, List.set_cons_succ]
      refine wpAnyH_take (i := 14) (oi := { dst := some 44, op := Op.move (Operand.tmp 43), type := 4, pos := "laws.go:322", after := #[{ on := 13, ground := Ground.data }, { on := 9, ground := Ground.chain }], guard := none }) (v := ?vd314) rfl (by kernel_rfl) (by kernel_rfl) (by kernel_rfl) (fun _ _ _ h => h) (Or.inl ⟨by rfl, ?hd314⟩) hHeld ?rd314
      case hd314 => intro w hSw; (try dsimp only at hSw); go_simp; try with_reducible rfl
      try simp only [Act.put, List.setIfInBounds_toArray, List.set_cons_zero, List.set_cons_succ]
      refine wpAnyH_take (i := 15) (oi := { dst := some 45, op := Op.load 25 (Operand.tmp 3), type := 25, pos := "laws.go:322", after := #[{ on := 14, ground := Ground.guard }], guard := some (14, false) }) (v := ?vd315) rfl (by kernel_rfl) (by kernel_rfl) (by kernel_rfl) (fun _ _ _ h => h) (Or.inl ⟨by rfl, ?hd315⟩) hHeld ?rd315
      case hd315 => intro w hSw; (try dsimp only at hSw); go_simp; try with_reducible rfl
      try simp only [Act.put, List.setIfInBounds_toArray, List.set_cons_zero, List.set_cons_succ]
      refine wpAnyH_take (i := 17) (oi := { dst := some 47, op := Op.load 25 (Operand.tmp 3), type := 25, pos := "laws.go:322", after := #[{ on := 14, ground := Ground.guard }], guard := some (14, false) }) (v := ?vd317) rfl (by kernel_rfl) (by kernel_rfl) (by kernel_rfl) (fun _ _ _ h => h) (Or.inl ⟨by rfl, ?hd317⟩) hHeld ?rd317
      case hd317 => intro w hSw; (try dsimp only at hSw); go_simp; try with_reducible rfl
      try simp only [Act.put, List.setIfInBounds_toArray, List.set_cons_zero, List.set_cons_succ]
      refine wpAnyH_ready (rs := [16]) (by kernel_rfl) (by simp) ?_
      refine AllReadyH.cons (o := { dst := some 46, op := Op.call { callee := Callee.value (Operand.func 16), args := #[Operand.tmp 45], argTypes := #[25] }, type := 4, pos := "laws.go:322", after := #[{ on := 15, ground := Ground.data }, { on := 14, ground := Ground.chain }, { on := 14, ground := Ground.guard }], guard := some (14, false) }) rfl (fun K hK => ?_) AllReadyH.nil
      go_simp
      refine (HI.out _).mono ?_
      rintro e w11 ⟨rfl, hb9⟩
      try go_wp2_with fail
      refine hK.out _ _ ?_ (fun hNew => ?_)
      · exact Bun.cells (Bun.step hHeld.2.2.2.2.2.2.2.2.2 hb9)
      clear hHeld hb9
      have hHeld := hNew
      clear hNew
      clear hK K
      try simp only [Act.put, List.setIfInBounds_toArray, List.set_cons_zero, List.set_cons_succ]
      refine wpAnyH_ready (rs := [18]) (by kernel_rfl) (by simp) ?_
      refine AllReadyH.cons (o := { dst := some 48, op := Op.call { callee := Callee.value (Operand.func 17), args := #[Operand.tmp 47], argTypes := #[25] }, type := 4, pos := "laws.go:322", after := #[{ on := 17, ground := Ground.data }, { on := 16, ground := Ground.chain }, { on := 14, ground := Ground.guard }], guard := some (14, false) }) rfl (fun K hK => ?_) AllReadyH.nil
      go_simp
      refine (HS.out _).mono ?_
      rintro e w12 ⟨rfl, hb9⟩
      try go_wp2_with fail
      refine hK.out _ _ ?_ (fun hNew => ?_)
      · exact Bun.cells (Bun.step hHeld.2.2.2.2.2.2.2.2.2 hb9)
      clear hHeld hb9
      have hHeld := hNew
      clear hNew
      clear hK K
      try simp only [Act.put, List.setIfInBounds_toArray, List.set_cons_zero, List.set_cons_succ]
      refine wpAnyH_take (i := 19) (oi := { dst := some 49, op := Op.binOp BinOp.neq 4 (Operand.tmp 46) (Operand.tmp 48) 4, type := 4, pos := "laws.go:322", after := #[{ on := 16, ground := Ground.data }, { on := 18, ground := Ground.data }, { on := 14, ground := Ground.guard }], guard := some (14, false) }) (v := ?vd319) rfl (by kernel_rfl) (by kernel_rfl) (by kernel_rfl) (fun _ _ _ h => h) (Or.inl ⟨by rfl, ?hd319⟩) hHeld ?rd319
      case hd319 => intro w hSw; (try dsimp only at hSw); go_simp; try with_reducible rfl
      try simp only [Act.put, List.setIfInBounds_toArray, List.set_cons_zero, List.set_cons_succ]
      refine wpAnyH_take (i := 20) (oi := { dst := some 50, op := Op.pick (Operand.tmp 44) (Operand.const (Value.bool true)) (Operand.tmp 49), type := 4, pos := "laws.go:322", after := #[{ on := 14, ground := Ground.data }, { on := 19, ground := Ground.data }], guard := none }) (v := ?vd320) rfl (by kernel_rfl) (by kernel_rfl) (by kernel_rfl) (fun _ _ _ h => h) (Or.inl ⟨by rfl, ?hd320⟩) hHeld ?rd320
      case hd320 => intro w hSw; (try dsimp only at hSw); go_simp; try with_reducible rfl
      try simp only [Act.put, List.setIfInBounds_toArray, List.set_cons_zero, List.set_cons_succ]
      refine wpAnyH_take (i := 21) (oi := { dst := some 51, op := Op.move (Operand.tmp 50), type := 4, pos := "laws.go:322", after := #[{ on := 20, ground := Ground.data }, { on := 18, ground := Ground.chain }], guard := none }) (v := ?vd321) rfl (by kernel_rfl) (by kernel_rfl) (by kernel_rfl) (fun _ _ _ h => h) (Or.inl ⟨by rfl, ?hd321⟩) hHeld ?rd321
      case hd321 => intro w hSw; (try dsimp only at hSw); go_simp; try with_reducible rfl
      try simp only [Act.put, List.setIfInBounds_toArray, List.set_cons_zero, List.set_cons_succ]
      refine wpAnyH_take (i := 22) (oi := { dst := some 52, op := Op.move (Operand.tmp 7), type := 4, pos := "laws.go:322", after := #[{ on := 21, ground := Ground.guard }], guard := some (21, false) }) (v := ?vd322) rfl (by kernel_rfl) (by kernel_rfl) (by kernel_rfl) (fun _ _ _ h => h) (Or.inl ⟨by rfl, ?hd322⟩) hHeld ?rd322
      case hd322 => intro w hSw; (try dsimp only at hSw); go_simp; try with_reducible rfl
      try simp only [Act.put, List.setIfInBounds_toArray, List.set_cons_zero, List.set_cons_succ]
      refine wpAnyH_take (i := 23) (oi := { dst := some 53, op := Op.move (Operand.tmp 52), type := 4, pos := "laws.go:322", after := #[{ on := 22, ground := Ground.data }, { on := 21, ground := Ground.chain }, { on := 21, ground := Ground.guard }], guard := some (21, false) }) (v := ?vd323) rfl (by kernel_rfl) (by kernel_rfl) (by kernel_rfl) (fun _ _ _ h => h) (Or.inl ⟨by rfl, ?hd323⟩) hHeld ?rd323
      case hd323 => intro w hSw; (try dsimp only at hSw); go_simp; try with_reducible rfl
      try simp only [Act.put, List.setIfInBounds_toArray, List.set_cons_zero, List.set_cons_succ]
      refine wpAnyH_take (i := 24) (oi := { dst := some 54, op := Op.load 25 (Operand.tmp 6), type := 25, pos := "laws.go:322", after := #[{ on := 23, ground := Ground.guard }], guard := some (23, true) }) (v := ?vd324) rfl (by kernel_rfl) (by kernel_rfl) (by kernel_rfl) (fun _ _ _ h => h) (Or.inl ⟨by rfl, ?hd324⟩) hHeld ?rd324
      case hd324 => intro w hSw; (try dsimp only at hSw); go_simp; try with_reducible rfl
      try simp only [Act.put, List.setIfInBounds_toArray, List.set_cons_zero, List.set_cons_succ]
      refine wpAnyH_take (i := 26) (oi := { dst := some 56, op := Op.move (Operand.tmp 5), type := 2, pos := "laws.go:322", after := #[{ on := 23, ground := Ground.guard }], guard := some (23, true) }) (v := ?vd326) rfl (by kernel_rfl) (by kernel_rfl) (by kernel_rfl) (fun _ _ _ h => h) (Or.inl ⟨by rfl, ?hd326⟩) hHeld ?rd326
      case hd326 => intro w hSw; (try dsimp only at hSw); go_simp; try with_reducible rfl
      try simp only [Act.put, List.setIfInBounds_toArray, List.set_cons_zero, List.set_cons_succ]
      refine wpAnyH_ready (rs := [25]) (by kernel_rfl) (by simp) ?_
      refine AllReadyH.cons (o := { dst := some 55, op := Op.call { callee := Callee.value (Operand.func 11), args := #[Operand.tmp 54], argTypes := #[25] }, type := 2, pos := "laws.go:322", after := #[{ on := 24, ground := Ground.data }, { on := 23, ground := Ground.chain }, { on := 23, ground := Ground.guard }], guard := some (23, true) }) rfl (fun K hK => ?_) AllReadyH.nil
      go_simp
      refine (HND.out _).mono ?_
      rintro e w13 ⟨rfl, hb9⟩
      try go_wp2_with fail
      refine hK.out _ _ ?_ (fun hNew => ?_)
      · exact Bun.cells (Bun.step hHeld.2.2.2.2.2.2.2.2.2 hb9)
      clear hHeld hb9
      have hHeld := hNew
      clear hNew
      clear hK K
      try simp only [Act.put, List.setIfInBounds_toArray, List.set_cons_zero, List.set_cons_succ]
      refine wpAnyH_take (i := 27) (oi := { dst := some 57, op := Op.binOp BinOp.neq 2 (Operand.tmp 55) (Operand.tmp 56) 2, type := 4, pos := "laws.go:322", after := #[{ on := 25, ground := Ground.data }, { on := 26, ground := Ground.data }, { on := 23, ground := Ground.guard }], guard := some (23, true) }) (v := ?vd327) rfl (by kernel_rfl) (by kernel_rfl) (by kernel_rfl) (fun _ _ _ h => h) (Or.inl ⟨by rfl, ?hd327⟩) hHeld ?rd327
      case hd327 => intro w hSw; (try dsimp only at hSw); go_simp; try with_reducible rfl
      try simp only [Act.put, List.setIfInBounds_toArray, List.set_cons_zero, List.set_cons_succ]
      refine wpAnyH_take (i := 28) (oi := { dst := some 58, op := Op.pick (Operand.tmp 53) (Operand.tmp 57) (Operand.const (Value.bool false)), type := 4, pos := "laws.go:322", after := #[{ on := 23, ground := Ground.data }, { on := 27, ground := Ground.data }, { on := 21, ground := Ground.guard }], guard := some (21, false) }) (v := ?vd328) rfl (by kernel_rfl) (by kernel_rfl) (by kernel_rfl) (fun _ _ _ h => h) (Or.inl ⟨by rfl, ?hd328⟩) hHeld ?rd328
      case hd328 => intro w hSw; (try dsimp only at hSw); go_simp; try with_reducible rfl
      try simp only [Act.put, List.setIfInBounds_toArray, List.set_cons_zero, List.set_cons_succ]
      refine wpAnyH_take (i := 29) (oi := { dst := some 59, op := Op.pick (Operand.tmp 51) (Operand.const (Value.bool true)) (Operand.tmp 58), type := 4, pos := "laws.go:322", after := #[{ on := 21, ground := Ground.data }, { on := 28, ground := Ground.data }], guard := none }) (v := ?vd329) rfl (by kernel_rfl) (by kernel_rfl) (by kernel_rfl) (fun _ _ _ h => h) (Or.inl ⟨by rfl, ?hd329⟩) hHeld ?rd329
      case hd329 => intro w hSw; (try dsimp only at hSw); go_simp; try with_reducible rfl
      try simp only [Act.put, List.setIfInBounds_toArray, List.set_cons_zero, List.set_cons_succ]
      refine wpAnyH_done (by kernel_rfl) ?_ _
      have HU12 : Hid (Bun w w13 w1.heap.size w4.heap.size w5.heap.size t g s D) := hHeld.2.2.2.2.2.2.2.2.2
      clear hHeld
      obtain rfl : m = -1 := HM1.out
      obtain ⟨c0, c1, c2⟩ := Blk.cells3 HU12.out.a
      go_wp2_with fail
      refine (HS.out _).mono ?_
      rintro e w20 ⟨rfl, hb20⟩
      have HU20 := Bun.step HU12 hb20
      clear hb20 c0 c1 c2
      go_wp2
      go_ret
      exact ⟨rfl, HU20.out.e⟩
    · rw [hb] at HI HS
      have hp := num_pos hb
      have hk := num_back hb
      rw [← HM.out] at hp hk
      have HBK : Hid (∀ w' : World, Calls Try.prog 13 #[.int .i64 m] w' (RetTB w' ⟨t, g, s⟩ true)) := Lib.hid (fun w' => by have := TickI.ticketOf w' (n := m) (by unfold I64; omega); rwa [hk.1, hk.2] at this)
      have HM1 : Hid (0 < m) := Lib.hid (by omega)
      clear hp hk
      clear hb
      go_wp2_with fail
      refine wp_region_held_drew (S := (fun w' => w'.cell? ⟨w1.heap.size, 0, none⟩ = some (.int .i64 t) ∧ w'.cell? ⟨w1.heap.size, 1, none⟩ = some (.int .i64 g) ∧ w'.cell? ⟨w1.heap.size, 2, none⟩ = some (.int .i64 s) ∧ w'.cell? ⟨w4.heap.size, 0, none⟩ = some (.int .i64 D.t) ∧ w'.cell? ⟨w4.heap.size, 1, none⟩ = some (.int .i64 D.g) ∧ w'.cell? ⟨w4.heap.size, 2, none⟩ = some (.int .i64 D.s) ∧ w'.cell? ⟨w5.heap.size, 0, none⟩ = some (.int .i64 D.t) ∧ w'.cell? ⟨w5.heap.size, 1, none⟩ = some (.int .i64 D.g) ∧ w'.cell? ⟨w5.heap.size, 2, none⟩ = some (.int .i64 D.s) ∧ Hid (Bun w w' w1.heap.size w4.heap.size w5.heap.size t g s D))) (by kernel_rfl) ?_ (fun hHeld => ?_)
      · exact Bun.cells (Bun.step HU (below_drew _))
      refine wpAnyH_take (i := 0) (oi := { dst := some 30, op := Op.move (Operand.tmp 4), type := 2, pos := "laws.go:322", after := #[], guard := none }) (v := ?ve40) rfl (by kernel_rfl) (by kernel_rfl) (by kernel_rfl) (fun _ _ _ h => h) (Or.inl ⟨by rfl, ?he40⟩) hHeld ?re40
      case he40 => intro w hSw; (try dsimp only at hSw); go_simp; try with_reducible rfl
      try simp only [Act.put, List.setIfInBounds_toArray, List.set_cons_zero, List.set_cons_succ]
      refine wpAnyH_take (i := 1) (oi := { dst := some 31, op := Op.load 25 (Operand.tmp 3), type := 25, pos := "laws.go:322", after := #[], guard := none }) (v := ?ve41) rfl (by kernel_rfl) (by kernel_rfl) (by kernel_rfl) (fun _ _ _ h => h) (Or.inl ⟨by rfl, ?he41⟩) hHeld ?re41
      case he41 => intro w hSw; (try dsimp only at hSw); go_simp; try with_reducible rfl
      try simp only [Act.put, List.setIfInBounds_toArray, List.set_cons_zero, List.set_cons_succ]
      refine wpAnyH_ready (rs := [2]) (by kernel_rfl) (by simp) ?_
      refine AllReadyH.cons (o := { dst := some 32, op := Op.call { callee := Callee.value (Operand.func 15), args := #[Operand.tmp 31], argTypes := #[25] }, type := 2, pos := "laws.go:322", after := #[{ on := 1, ground := Ground.data }], guard := none }) rfl (fun K hK => ?_) AllReadyH.nil
      go_simp
      refine (HNS.out _).mono ?_
      rintro e w10 ⟨rfl, hb9⟩
      try go_wp2_with fail
      refine hK.out _ _ ?_ (fun hNew => ?_)
      · exact Bun.cells (Bun.step hHeld.2.2.2.2.2.2.2.2.2 hb9)
      clear hHeld hb9
      have hHeld := hNew
      clear hNew
      clear hK K
      try simp only [Act.put, List.setIfInBounds_toArray, List.set_cons_zero, List.set_cons_succ]
      refine wpAnyH_take (i := 3) (oi := { dst := some 33, op := Op.binOp BinOp.neq 2 (Operand.tmp 30) (Operand.tmp 32) 2, type := 4, pos := "laws.go:322", after := #[{ on := 0, ground := Ground.data }, { on := 2, ground := Ground.data }], guard := none }) (v := ?ve43) rfl (by kernel_rfl) (by kernel_rfl) (by kernel_rfl) (fun _ _ _ h => h) (Or.inl ⟨by rfl, ?he43⟩) hHeld ?re43
      case he43 => intro w hSw; (try dsimp only at hSw); go_simp; try with_reducible rfl
      try simp only [Act.put, List.setIfInBounds_toArray, List.set_cons_zero, List.set_cons_succ]
      refine wpAnyH_take (i := 4) (oi := { dst := some 34, op := Op.move (Operand.tmp 33), type := 4, pos := "laws.go:322", after := #[{ on := 3, ground := Ground.data }, { on := 2, ground := Ground.chain }], guard := none }) (v := ?ve44) rfl (by kernel_rfl) (by kernel_rfl) (by kernel_rfl) (fun _ _ _ h => h) (Or.inl ⟨by rfl, ?he44⟩) hHeld ?re44
      case he44 => intro w hSw; (try dsimp only at hSw); go_simp; try with_reducible rfl
      try simp only [Act.put, List.setIfInBounds_toArray, List.set_cons_zero, List.set_cons_succ]
      refine wpAnyH_take (i := 5) (oi := { dst := some 35, op := Op.load 25 (Operand.tmp 6), type := 25, pos := "laws.go:322", after := #[{ on := 4, ground := Ground.guard }], guard := some (4, false) }) (v := ?ve45) rfl (by kernel_rfl) (by kernel_rfl) (by kernel_rfl) (fun _ _ _ h => h) (Or.inl ⟨by rfl, ?he45⟩) hHeld ?re45
      case he45 => intro w hSw; (try dsimp only at hSw); go_simp; try with_reducible rfl
      try simp only [Act.put, List.setIfInBounds_toArray, List.set_cons_zero, List.set_cons_succ]
      refine wpAnyH_take (i := 6) (oi := { dst := some 36, op := Op.load 25 (Operand.tmp 8), type := 25, pos := "laws.go:322", after := #[{ on := 4, ground := Ground.guard }], guard := some (4, false) }) (v := ?ve46) rfl (by kernel_rfl) (by kernel_rfl) (by kernel_rfl) (fun _ _ _ h => h) (Or.inl ⟨by rfl, ?he46⟩) hHeld ?re46
      case he46 => intro w hSw; (try dsimp only at hSw); go_simp; try with_reducible rfl
      try simp only [Act.put, List.setIfInBounds_toArray, List.set_cons_zero, List.set_cons_succ]
      refine wpAnyH_take (i := 7) (oi := { dst := some 37, op := Op.binOp BinOp.neq 25 (Operand.tmp 35) (Operand.tmp 36) 25, type := 4, pos := "laws.go:322", after := #[{ on := 5, ground := Ground.data }, { on := 6, ground := Ground.data }, { on := 4, ground := Ground.guard }], guard := some (4, false) }) (v := ?ve47) rfl (by kernel_rfl) (by kernel_rfl) (by kernel_rfl) (fun _ _ _ h => h) (Or.inl ⟨by rfl, ?he47⟩) hHeld ?re47
      case he47 => intro w hSw; (try dsimp only at hSw); go_simp; try with_reducible rfl
      try simp only [Act.put, List.setIfInBounds_toArray, List.set_cons_zero, List.set_cons_succ]
      refine wpAnyH_take (i := 8) (oi := { dst := some 38, op := Op.pick (Operand.tmp 34) (Operand.const (Value.bool true)) (Operand.tmp 37), type := 4, pos := "laws.go:322", after := #[{ on := 4, ground := Ground.data }, { on := 7, ground := Ground.data }], guard := none }) (v := ?ve48) rfl (by kernel_rfl) (by kernel_rfl) (by kernel_rfl) (fun _ _ _ h => h) (Or.inl ⟨by rfl, ?he48⟩) hHeld ?re48
      case he48 => intro w hSw; (try dsimp only at hSw); go_simp; try with_reducible rfl
      try simp only [Act.put, List.setIfInBounds_toArray, List.set_cons_zero, List.set_cons_succ]
      refine wpAnyH_take (i := 9) (oi := { dst := some 39, op := Op.move (Operand.tmp 38), type := 4, pos := "laws.go:322", after := #[{ on := 8, ground := Ground.data }, { on := 4, ground := Ground.chain }], guard := none }) (v := ?ve49) rfl (by kernel_rfl) (by kernel_rfl) (by kernel_rfl) (fun _ _ _ h => h) (Or.inl ⟨by rfl, ?he49⟩) hHeld ?re49
      case he49 => intro w hSw; (try dsimp only at hSw); go_simp; try with_reducible rfl
      try simp only [Act.put, List.setIfInBounds_toArray, List.set_cons_zero, List.set_cons_succ]
      refine wpAnyH_take (i := 10) (oi := { dst := some 40, op := Op.move (Operand.tmp 7), type := 4, pos := "laws.go:322", after := #[{ on := 9, ground := Ground.guard }], guard := some (9, false) }) (v := ?ve410) rfl (by kernel_rfl) (by kernel_rfl) (by kernel_rfl) (fun _ _ _ h => h) (Or.inl ⟨by rfl, ?he410⟩) hHeld ?re410
      case he410 => intro w hSw; (try dsimp only at hSw); go_simp; try with_reducible rfl
      try simp only [Act.put, List.setIfInBounds_toArray, List.set_cons_zero, List.set_cons_succ]
      refine wpAnyH_take (i := 11) (oi := { dst := some 41, op := Op.move (Operand.tmp 9), type := 4, pos := "laws.go:322", after := #[{ on := 9, ground := Ground.guard }], guard := some (9, false) }) (v := ?ve411) rfl (by kernel_rfl) (by kernel_rfl) (by kernel_rfl) (fun _ _ _ h => h) (Or.inl ⟨by rfl, ?he411⟩) hHeld ?re411
      case he411 => intro w hSw; (try dsimp only at hSw); go_simp; try with_reducible rfl
      try simp only [Act.put, List.setIfInBounds_toArray, List.set_cons_zero, List.set_cons_succ]
      refine wpAnyH_take (i := 12) (oi := { dst := some 42, op := Op.binOp BinOp.neq 4 (Operand.tmp 40) (Operand.tmp 41) 4, type := 4, pos := "laws.go:322", after := #[{ on := 10, ground := Ground.data }, { on := 11, ground := Ground.data }, { on := 9, ground := Ground.guard }], guard := some (9, false) }) (v := ?ve412) rfl (by kernel_rfl) (by kernel_rfl) (by kernel_rfl) (fun _ _ _ h => h) (Or.inl ⟨by rfl, ?he412⟩) hHeld ?re412
      case he412 => intro w hSw; (try dsimp only at hSw); go_simp; try with_reducible rfl
      try simp only [Act.put, List.setIfInBounds_toArray, List.set_cons_zero, List.set_cons_succ]
      refine wpAnyH_take (i := 13) (oi := { dst := some 43, op := Op.pick (Operand.tmp 39) (Operand.const (Value.bool true)) (Operand.tmp 42), type := 4, pos := "laws.go:322", after := #[{ on := 9, ground := Ground.data }, { on := 12, ground := Ground.data }], guard := none }) (v := ?ve413) rfl (by kernel_rfl) (by kernel_rfl) (by kernel_rfl) (fun _ _ _ h => h) (Or.inl ⟨by rfl, ?he413⟩) hHeld ?re413
      case he413 => intro w hSw; (try dsimp only at hSw); go_simp; try with_reducible rfl
      try simp only [Act.put, List.setIfInBounds_toArray, List.set_cons_zero, List.set_cons_succ]
      refine wpAnyH_take (i := 14) (oi := { dst := some 44, op := Op.move (Operand.tmp 43), type := 4, pos := "laws.go:322", after := #[{ on := 13, ground := Ground.data }, { on := 9, ground := Ground.chain }], guard := none }) (v := ?ve414) rfl (by kernel_rfl) (by kernel_rfl) (by kernel_rfl) (fun _ _ _ h => h) (Or.inl ⟨by rfl, ?he414⟩) hHeld ?re414
      case he414 => intro w hSw; (try dsimp only at hSw); go_simp; try with_reducible rfl
      try simp only [Act.put, List.setIfInBounds_toArray, List.set_cons_zero, List.set_cons_succ]
      refine wpAnyH_take (i := 15) (oi := { dst := some 45, op := Op.load 25 (Operand.tmp 3), type := 25, pos := "laws.go:322", after := #[{ on := 14, ground := Ground.guard }], guard := some (14, false) }) (v := ?ve415) rfl (by kernel_rfl) (by kernel_rfl) (by kernel_rfl) (fun _ _ _ h => h) (Or.inl ⟨by rfl, ?he415⟩) hHeld ?re415
      case he415 => intro w hSw; (try dsimp only at hSw); go_simp; try with_reducible rfl
      try simp only [Act.put, List.setIfInBounds_toArray, List.set_cons_zero, List.set_cons_succ]
      refine wpAnyH_take (i := 17) (oi := { dst := some 47, op := Op.load 25 (Operand.tmp 3), type := 25, pos := "laws.go:322", after := #[{ on := 14, ground := Ground.guard }], guard := some (14, false) }) (v := ?ve417) rfl (by kernel_rfl) (by kernel_rfl) (by kernel_rfl) (fun _ _ _ h => h) (Or.inl ⟨by rfl, ?he417⟩) hHeld ?re417
      case he417 => intro w hSw; (try dsimp only at hSw); go_simp; try with_reducible rfl
      try simp only [Act.put, List.setIfInBounds_toArray, List.set_cons_zero, List.set_cons_succ]
      refine wpAnyH_ready (rs := [16]) (by kernel_rfl) (by simp) ?_
      refine AllReadyH.cons (o := { dst := some 46, op := Op.call { callee := Callee.value (Operand.func 16), args := #[Operand.tmp 45], argTypes := #[25] }, type := 4, pos := "laws.go:322", after := #[{ on := 15, ground := Ground.data }, { on := 14, ground := Ground.chain }, { on := 14, ground := Ground.guard }], guard := some (14, false) }) rfl (fun K hK => ?_) AllReadyH.nil
      go_simp
      refine (HI.out _).mono ?_
      rintro e w11 ⟨rfl, hb9⟩
      try go_wp2_with fail
      refine hK.out _ _ ?_ (fun hNew => ?_)
      · exact Bun.cells (Bun.step hHeld.2.2.2.2.2.2.2.2.2 hb9)
      clear hHeld hb9
      have hHeld := hNew
      clear hNew
      clear hK K
      try simp only [Act.put, List.setIfInBounds_toArray, List.set_cons_zero, List.set_cons_succ]
      refine wpAnyH_ready (rs := [18]) (by kernel_rfl) (by simp) ?_
      refine AllReadyH.cons (o := { dst := some 48, op := Op.call { callee := Callee.value (Operand.func 17), args := #[Operand.tmp 47], argTypes := #[25] }, type := 4, pos := "laws.go:322", after := #[{ on := 17, ground := Ground.data }, { on := 16, ground := Ground.chain }, { on := 14, ground := Ground.guard }], guard := some (14, false) }) rfl (fun K hK => ?_) AllReadyH.nil
      go_simp
      refine (HS.out _).mono ?_
      rintro e w12 ⟨rfl, hb9⟩
      try go_wp2_with fail
      refine hK.out _ _ ?_ (fun hNew => ?_)
      · exact Bun.cells (Bun.step hHeld.2.2.2.2.2.2.2.2.2 hb9)
      clear hHeld hb9
      have hHeld := hNew
      clear hNew
      clear hK K
      try simp only [Act.put, List.setIfInBounds_toArray, List.set_cons_zero, List.set_cons_succ]
      refine wpAnyH_take (i := 19) (oi := { dst := some 49, op := Op.binOp BinOp.neq 4 (Operand.tmp 46) (Operand.tmp 48) 4, type := 4, pos := "laws.go:322", after := #[{ on := 16, ground := Ground.data }, { on := 18, ground := Ground.data }, { on := 14, ground := Ground.guard }], guard := some (14, false) }) (v := ?ve419) rfl (by kernel_rfl) (by kernel_rfl) (by kernel_rfl) (fun _ _ _ h => h) (Or.inl ⟨by rfl, ?he419⟩) hHeld ?re419
      case he419 => intro w hSw; (try dsimp only at hSw); go_simp; try with_reducible rfl
      try simp only [Act.put, List.setIfInBounds_toArray, List.set_cons_zero, List.set_cons_succ]
      refine wpAnyH_take (i := 20) (oi := { dst := some 50, op := Op.pick (Operand.tmp 44) (Operand.const (Value.bool true)) (Operand.tmp 49), type := 4, pos := "laws.go:322", after := #[{ on := 14, ground := Ground.data }, { on := 19, ground := Ground.data }], guard := none }) (v := ?ve420) rfl (by kernel_rfl) (by kernel_rfl) (by kernel_rfl) (fun _ _ _ h => h) (Or.inl ⟨by rfl, ?he420⟩) hHeld ?re420
      case he420 => intro w hSw; (try dsimp only at hSw); go_simp; try with_reducible rfl
      try simp only [Act.put, List.setIfInBounds_toArray, List.set_cons_zero, List.set_cons_succ]
      refine wpAnyH_take (i := 21) (oi := { dst := some 51, op := Op.move (Operand.tmp 50), type := 4, pos := "laws.go:322", after := #[{ on := 20, ground := Ground.data }, { on := 18, ground := Ground.chain }], guard := none }) (v := ?ve421) rfl (by kernel_rfl) (by kernel_rfl) (by kernel_rfl) (fun _ _ _ h => h) (Or.inl ⟨by rfl, ?he421⟩) hHeld ?re421
      case he421 => intro w hSw; (try dsimp only at hSw); go_simp; try with_reducible rfl
      try simp only [Act.put, List.setIfInBounds_toArray, List.set_cons_zero, List.set_cons_succ]
      refine wpAnyH_take (i := 22) (oi := { dst := some 52, op := Op.move (Operand.tmp 7), type := 4, pos := "laws.go:322", after := #[{ on := 21, ground := Ground.guard }], guard := some (21, false) }) (v := ?ve422) rfl (by kernel_rfl) (by kernel_rfl) (by kernel_rfl) (fun _ _ _ h => h) (Or.inl ⟨by rfl, ?he422⟩) hHeld ?re422
      case he422 => intro w hSw; (try dsimp only at hSw); go_simp; try with_reducible rfl
      try simp only [Act.put, List.setIfInBounds_toArray, List.set_cons_zero, List.set_cons_succ]
      refine wpAnyH_take (i := 23) (oi := { dst := some 53, op := Op.move (Operand.tmp 52), type := 4, pos := "laws.go:322", after := #[{ on := 22, ground := Ground.data }, { on := 21, ground := Ground.chain }, { on := 21, ground := Ground.guard }], guard := some (21, false) }) (v := ?ve423) rfl (by kernel_rfl) (by kernel_rfl) (by kernel_rfl) (fun _ _ _ h => h) (Or.inl ⟨by rfl, ?he423⟩) hHeld ?re423
      case he423 => intro w hSw; (try dsimp only at hSw); go_simp; try with_reducible rfl
      try simp only [Act.put, List.setIfInBounds_toArray, List.set_cons_zero, List.set_cons_succ]
      refine wpAnyH_take (i := 24) (oi := { dst := some 54, op := Op.load 25 (Operand.tmp 6), type := 25, pos := "laws.go:322", after := #[{ on := 23, ground := Ground.guard }], guard := some (23, true) }) (v := ?ve424) rfl (by kernel_rfl) (by kernel_rfl) (by kernel_rfl) (fun _ _ _ h => h) (Or.inl ⟨by rfl, ?he424⟩) hHeld ?re424
      case he424 => intro w hSw; (try dsimp only at hSw); go_simp; try with_reducible rfl
      try simp only [Act.put, List.setIfInBounds_toArray, List.set_cons_zero, List.set_cons_succ]
      refine wpAnyH_take (i := 26) (oi := { dst := some 56, op := Op.move (Operand.tmp 5), type := 2, pos := "laws.go:322", after := #[{ on := 23, ground := Ground.guard }], guard := some (23, true) }) (v := ?ve426) rfl (by kernel_rfl) (by kernel_rfl) (by kernel_rfl) (fun _ _ _ h => h) (Or.inl ⟨by rfl, ?he426⟩) hHeld ?re426
      case he426 => intro w hSw; (try dsimp only at hSw); go_simp; try with_reducible rfl
      try simp only [Act.put, List.setIfInBounds_toArray, List.set_cons_zero, List.set_cons_succ]
      refine wpAnyH_ready (rs := [25]) (by kernel_rfl) (by simp) ?_
      refine AllReadyH.cons (o := { dst := some 55, op := Op.call { callee := Callee.value (Operand.func 11), args := #[Operand.tmp 54], argTypes := #[25] }, type := 2, pos := "laws.go:322", after := #[{ on := 24, ground := Ground.data }, { on := 23, ground := Ground.chain }, { on := 23, ground := Ground.guard }], guard := some (23, true) }) rfl (fun K hK => ?_) AllReadyH.nil
      go_simp
      refine (HND.out _).mono ?_
      rintro e w13 ⟨rfl, hb9⟩
      try go_wp2_with fail
      refine hK.out _ _ ?_ (fun hNew => ?_)
      · exact Bun.cells (Bun.step hHeld.2.2.2.2.2.2.2.2.2 hb9)
      clear hHeld hb9
      have hHeld := hNew
      clear hNew
      clear hK K
      try simp only [Act.put, List.setIfInBounds_toArray, List.set_cons_zero, List.set_cons_succ]
      refine wpAnyH_take (i := 27) (oi := { dst := some 57, op := Op.binOp BinOp.neq 2 (Operand.tmp 55) (Operand.tmp 56) 2, type := 4, pos := "laws.go:322", after := #[{ on := 25, ground := Ground.data }, { on := 26, ground := Ground.data }, { on := 23, ground := Ground.guard }], guard := some (23, true) }) (v := ?ve427) rfl (by kernel_rfl) (by kernel_rfl) (by kernel_rfl) (fun _ _ _ h => h) (Or.inl ⟨by rfl, ?he427⟩) hHeld ?re427
      case he427 => intro w hSw; (try dsimp only at hSw); go_simp; try with_reducible rfl
      try simp only [Act.put, List.setIfInBounds_toArray, List.set_cons_zero, List.set_cons_succ]
      refine wpAnyH_take (i := 28) (oi := { dst := some 58, op := Op.pick (Operand.tmp 53) (Operand.tmp 57) (Operand.const (Value.bool false)), type := 4, pos := "laws.go:322", after := #[{ on := 23, ground := Ground.data }, { on := 27, ground := Ground.data }, { on := 21, ground := Ground.guard }], guard := some (21, false) }) (v := ?ve428) rfl (by kernel_rfl) (by kernel_rfl) (by kernel_rfl) (fun _ _ _ h => h) (Or.inl ⟨by rfl, ?he428⟩) hHeld ?re428
      case he428 => intro w hSw; (try dsimp only at hSw); go_simp; try with_reducible rfl
      try simp only [Act.put, List.setIfInBounds_toArray, List.set_cons_zero, List.set_cons_succ]
      refine wpAnyH_take (i := 29) (oi := { dst := some 59, op := Op.pick (Operand.tmp 51) (Operand.const (Value.bool true)) (Operand.tmp 58), type := 4, pos := "laws.go:322", after := #[{ on := 21, ground := Ground.data }, { on := 28, ground := Ground.data }], guard := none }) (v := ?ve429) rfl (by kernel_rfl) (by kernel_rfl) (by kernel_rfl) (fun _ _ _ h => h) (Or.inl ⟨by rfl, ?he429⟩) hHeld ?re429
      case he429 => intro w hSw; (try dsimp only at hSw); go_simp; try with_reducible rfl
      try simp only [Act.put, List.setIfInBounds_toArray, List.set_cons_zero, List.set_cons_succ]
      refine wpAnyH_done (by kernel_rfl) ?_ _
      have HU12 : Hid (Bun w w13 w1.heap.size w4.heap.size w5.heap.size t g s D) := hHeld.2.2.2.2.2.2.2.2.2
      clear hHeld
      have hm0 := HM1.out
      obtain ⟨c0, c1, c2⟩ := Blk.cells3 HU12.out.a
      go_wp2_with fail
      refine (HBK.out _).mono ?_
      rintro e w20 ⟨rfl, hb20⟩
      have HU20 := Bun.step HU12 hb20
      have hlt := HU20.out.a.lt
      clear hb20 c0 c1 c2
      obtain ⟨c0, c1, c2⟩ := Blk.cells3 HU20.out.a
      go_wp2
      go_ret
      exact ⟨by first | rfl | simp, HU20.out.e.alloc HU20.out.e.size _⟩

set_option maxRecDepth 100000 in
set_option maxHeartbeats 1000000 in
theorem walk (a0 : Option Addr) (len0 cap0 : Nat) (z0 : List Int) (w : World) (q0 : IsRow .u8 w a0 len0 cap0 z0) :
    Calls Try.prog 3 #[.slice a0 len0 cap0] w fun e w' => e = .returned (.bool true) ∧ Below w.heap.size w w' := by
  by_cases hs : len0 ≤ 4096
  · exact small a0 len0 cap0 z0 w q0 hs
  · have hb := big w q0.rd
    rw [q0.len, decide_eq_true (by omega)] at hb
    have HB := Lib.hid hb
    clear hb
    go_enter Try.func3, Try.ntmps3
    go_wp2_with fail
    refine HB.out.mono ?_
    rintro e w1 ⟨rfl, rfl⟩
    go_wp2
    go_ret
    exact ⟨rfl, Below.refl _ _⟩
end Go.Proofs.Ytmipkngikimjgaa.fnTicketsW
