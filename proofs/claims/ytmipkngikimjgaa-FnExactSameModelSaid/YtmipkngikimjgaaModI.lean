/-
  The program's SameModel: two models are alike. No condition.
-/
import Derived.Test.YtmipkngikimjgaaSlicesEq
import Derived.Test.YtmipkngikimjgaaModEq
import Derived.Deep.RegionHeld3
import Derived.BigRegion
namespace Go.Proofs.Ytmipkngikimjgaa.ModI
open Go.RowKit Go.Proofs.Ytmipkngikimjgaa.Mem Go.Proofs.Ytmipkngikimjgaa.Pure Go.Proofs.Ytmipkngikimjgaa.Help Go.Proofs.Ytmipkngikimjgaa.Seq Go.Proofs.Ytmipkngikimjgaa.Ints Go.Proofs.Ytmipkngikimjgaa.Nest Go.Proofs.Ytmipkngikimjgaa.Mods
set_option linter.unusedVariables false

theorem beq_of {a b : Int} (h : ¬ a = b) : (a == b) = false := by simpa using h

set_option maxRecDepth 100000 in
set_option maxHeartbeats 1000000 in
theorem slot (w : World) (u r : Bool) (g : Int) (x y : Value) :
    Calls Try.prog 107 #[.agg #[.bool u, .bool r, .int .i64 g, x, y]] w (RetV w (.agg #[.bool u, .bool r, .int .i64 g, .int .i64 0])) := by
  have HB : Hid (Below w.heap.size w (w.alloc (.cells #[.bool u, .bool r, .int .i64 g, x, y] 79))) := Lib.hid ((Below.refl _ _).alloc (Nat.le_refl _) _)
  have HS : Hid (Blk ((w.alloc (.cells #[.bool u, .bool r, .int .i64 g, x, y] 79)).alloc (.cells #[.bool u, .bool r, .int .i64 g, .int .i64 0] 145)) (w.heap.size + 1) #[.bool u, .bool r, .int .i64 g, .int .i64 0] 145) := Lib.hid (by
    have := Blk.new (w.alloc (.cells #[.bool u, .bool r, .int .i64 g, x, y] 79)) #[.bool u, .bool r, .int .i64 g, .int .i64 0] 145
    simpa using this)
  go_enter Try.func107, Try.ntmps107
  go_wp2
  obtain ⟨c0, c1, c2, c3⟩ := HS.out.cells4
  refine bodyPost_ret (v := .agg #[.bool u, .bool r, .int .i64 g, .int .i64 0]) (by simp [results, Try.results107, go_sem, c0, c1, c2, c3]) rfl ?_
  exact ⟨rfl, HB.out.alloc (by simp) _⟩

/-- What stays from step to step: the two things' boxes, and all that was there. -/
structure Bun (w0 : World) (b0 b1 : Nat) (C0 C1 : Array Value) (wr : World) : Prop where
  b : Below w0.heap.size w0 wr
  x : Blk wr b0 C0 79
  y : Blk wr b1 C1 79

theorem Bun.step {w0 wr w2 : World} {b0 b1 : Nat} {C0 C1 : Array Value} (h : Hid (Bun w0 b0 b1 C0 C1 wr)) (hb : Below wr.heap.size wr w2) : Hid (Bun w0 b0 b1 C0 C1 w2) :=
  Lib.hid ⟨below_then h.out.b hb (Nat.le_refl _), h.out.x.below hb, h.out.y.below hb⟩

theorem Bun.cells {w0 wr : World} {b0 b1 : Nat} {a b c d e a' b' c' d' e' : Value} (h : Hid (Bun w0 b0 b1 #[a, b, c, d, e] #[a', b', c', d', e'] wr)) :
    wr.cell? ⟨b0, 0, none⟩ = some a ∧ wr.cell? ⟨b0, 1, none⟩ = some b ∧ wr.cell? ⟨b0, 2, none⟩ = some c ∧ wr.cell? ⟨b0, 3, none⟩ = some d ∧ wr.cell? ⟨b0, 4, none⟩ = some e ∧
    wr.cell? ⟨b1, 0, none⟩ = some a' ∧ wr.cell? ⟨b1, 1, none⟩ = some b' ∧ wr.cell? ⟨b1, 2, none⟩ = some c' ∧ wr.cell? ⟨b1, 3, none⟩ = some d' ∧ wr.cell? ⟨b1, 4, none⟩ = some e' ∧ Hid (Bun w0 b0 b1 #[a, b, c, d, e] #[a', b', c', d', e'] wr) := by
  obtain ⟨⟨c0, c1, c2, c3, c4⟩, _⟩ := blk5 h.out.x
  obtain ⟨⟨d0, d1, d2, d3, d4⟩, _⟩ := blk5 h.out.y
  exact ⟨c0, c1, c2, c3, c4, d0, d1, d2, d3, d4, h⟩

set_option maxRecDepth 100000 in
set_option maxHeartbeats 2000000 in
theorem likeT (w : World) {a b : Th} {la ha lb hb : Nat} {x y x' y' : Value} (hx : RdR w la ha 1 x (intR a.f)) (hy : Rd w la ha y a.d) (hx' : RdR w lb hb 1 x' (intR b.f)) (hy' : Rd w lb hb y' b.d) :
    Calls Try.prog 106 #[.agg #[.bool a.u, .bool a.r, .int .i64 a.g, x, y], .agg #[.bool b.u, .bool b.r, .int .i64 b.g, x', y']] w (RetV w (.bool (sameTh a b))) := by
  have HXE := Lib.hid (fun (w1 : World) (hb : Below w.heap.size w w1) => SlicesEq.ints w1 (hx.below hb) (hx'.below hb))
  have HYE := Lib.hid (fun (w1 : World) (hb : Below w.heap.size w w1) => SlicesEq.bytes w1 (hy.below hb) (hy'.below hb))
  obtain ⟨A, n, c, rfl⟩ := rdR_form hx
  obtain ⟨B, l, e, rfl⟩ := rd_form hy
  obtain ⟨A', n', c', rfl⟩ := rdR_form hx'
  obtain ⟨B', l', e', rfl⟩ := rd_form hy'
  obtain ⟨u, r, g, f, d⟩ := a
  obtain ⟨u', r', g', f', d'⟩ := b
  dsimp only at HXE HYE ⊢
  obtain ⟨X, hX⟩ : ∃ X, X = sameTh ⟨u, r, g, f, d⟩ ⟨u', r', g', f', d'⟩ := ⟨_, rfl⟩
  obtain ⟨v, hv⟩ : ∃ v, v = (u == u' && (r == r' && g == g')) := ⟨_, rfl⟩
  obtain ⟨p, hp⟩ : ∃ p, p = decide (f = f') := ⟨_, rfl⟩
  obtain ⟨q, hq⟩ : ∃ q, q = decide (d = d') := ⟨_, rfl⟩
  have HX : Hid (X = (v && (p && q))) := Lib.hid (by rw [hX, hv, hp, hq]; unfold sameTh; simp only [Bool.and_assoc])
  have HIF : Hid (∀ w : World, (if u = u' then (if r = r' then (if g = g' then Result.ok (Next.value (Value.bool true)) w else Result.ok (Next.value (Value.bool false)) w) else Result.ok (Next.value (Value.bool false)) w) else Result.ok (Next.value (Value.bool false)) w) = Result.ok (Next.value (Value.bool v)) w) := Lib.hid (fun w => by
    rw [hv]
    by_cases h1 : u = u' <;> by_cases h2 : r = r' <;> by_cases h3 : g = g' <;> simp [h1, h2, h3])
  have HNE : Hid (v = false → u = u' → r = r' → ¬ g = g') := Lib.hid (fun h h1 h2 h3 => by
    rw [hv, h1, h2, h3] at h
    simp at h)
  rw [← hX]
  rw [← hp] at HXE
  rw [← hq] at HYE
  clear hx hy hx' hy' hX hp hq hv
  have HU : Hid (Bun w w.heap.size (w.heap.size + 1) #[.bool u, .bool r, .int .i64 g, .slice A n c, .slice B l e] #[.bool u', .bool r', .int .i64 g', .slice A' n' c', .slice B' l' e'] ((w.alloc (.cells #[.bool u, .bool r, .int .i64 g, .slice A n c, .slice B l e] 79)).alloc (.cells #[.bool u', .bool r', .int .i64 g', .slice A' n' c', .slice B' l' e'] 79))) := Lib.hid ⟨((Below.refl _ _).alloc (Nat.le_refl _) _).alloc (by simp) _, (Blk.new w _ _).more _, by
    have := Blk.new (w.alloc (.cells #[.bool u, .bool r, .int .i64 g, .slice A n c, .slice B l e] 79)) #[.bool u', .bool r', .int .i64 g', .slice A' n' c', .slice B' l' e'] 79
    simpa using this⟩
  cases v
  · rw [show X = false from by rw [HX.out]; simp]
    clear HXE HYE
    go_enter Try.func106, Try.ntmps106
    go_wp2_with fail
    refine wp_region_held_drew (S := (fun w' => w'.cell? ⟨w.heap.size, 0, none⟩ = some (.bool u) ∧ w'.cell? ⟨w.heap.size, 1, none⟩ = some (.bool r) ∧ w'.cell? ⟨w.heap.size, 2, none⟩ = some (.int .i64 g) ∧ w'.cell? ⟨w.heap.size, 3, none⟩ = some (.slice A n c) ∧ w'.cell? ⟨w.heap.size, 4, none⟩ = some (.slice B l e) ∧ w'.cell? ⟨w.heap.size + 1, 0, none⟩ = some (.bool u') ∧ w'.cell? ⟨w.heap.size + 1, 1, none⟩ = some (.bool r') ∧ w'.cell? ⟨w.heap.size + 1, 2, none⟩ = some (.int .i64 g') ∧ w'.cell? ⟨w.heap.size + 1, 3, none⟩ = some (.slice A' n' c') ∧ w'.cell? ⟨w.heap.size + 1, 4, none⟩ = some (.slice B' l' e') ∧ Hid (Bun w w.heap.size (w.heap.size + 1) #[.bool u, .bool r, .int .i64 g, .slice A n c, .slice B l e] #[.bool u', .bool r', .int .i64 g', .slice A' n' c', .slice B' l' e'] w'))) (by kernel_rfl) ?_ (fun hHeld => ?_)
    · exact Bun.cells (Bun.step HU (below_drew _))
    refine wpAnyH_take (i := 0) (oi := { dst := some 5, op := Op.load 79 (Operand.tmp 2), type := 79, pos := "l16_model.go:84", after := #[], guard := none }) (v := ?vb10) rfl (by kernel_rfl) (by kernel_rfl) (by kernel_rfl) (fun _ _ _ h => h) (Or.inl ⟨by rfl, ?hb10⟩) hHeld ?rb10
    case hb10 => intro w hSw; (try dsimp only at hSw); go_simp; try with_reducible rfl
    try simp only [Act.put, List.setIfInBounds_toArray, List.set_cons_zero, List.set_cons_succ]
    refine wpAnyH_take (i := 2) (oi := { dst := some 7, op := Op.load 79 (Operand.tmp 3), type := 79, pos := "l16_model.go:84", after := #[], guard := none }) (v := ?vb12) rfl (by kernel_rfl) (by kernel_rfl) (by kernel_rfl) (fun _ _ _ h => h) (Or.inl ⟨by rfl, ?hb12⟩) hHeld ?rb12
    case hb12 => intro w hSw; (try dsimp only at hSw); go_simp; try with_reducible rfl
    try simp only [Act.put, List.setIfInBounds_toArray, List.set_cons_zero, List.set_cons_succ]
    refine wpAnyH_ready (rs := [1]) (by kernel_rfl) (by simp) ?_
    refine AllReadyH.cons (o := { dst := some 6, op := Op.call { callee := Callee.value (Operand.func 107), args := #[Operand.tmp 5], argTypes := #[79] }, type := 145, pos := "l16_model.go:84", after := #[{ on := 0, ground := Ground.data }], guard := none }) rfl (fun K hK => ?_) AllReadyH.nil
    go_simp
    refine (slot _ u r g _ _).mono ?_
    rintro e3 w3 ⟨rfl, hb3⟩
    try go_wp2_with fail
    refine hK.out _ _ ?_ (fun hNew => ?_)
    · exact Bun.cells (Bun.step hHeld.2.2.2.2.2.2.2.2.2.2 hb3)
    clear hHeld hb3
    have hHeld := hNew
    clear hNew
    clear hK K
    try simp only [Act.put, List.setIfInBounds_toArray, List.set_cons_zero, List.set_cons_succ]
    refine wpAnyH_ready (rs := [3]) (by kernel_rfl) (by simp) ?_
    refine AllReadyH.cons (o := { dst := some 8, op := Op.call { callee := Callee.value (Operand.func 107), args := #[Operand.tmp 7], argTypes := #[79] }, type := 145, pos := "l16_model.go:84", after := #[{ on := 2, ground := Ground.data }, { on := 1, ground := Ground.chain }], guard := none }) rfl (fun K hK => ?_) AllReadyH.nil
    go_simp
    refine (slot _ u' r' g' _ _).mono ?_
    rintro e4 w4 ⟨rfl, hb4⟩
    try go_wp2_with fail
    refine hK.out _ _ ?_ (fun hNew => ?_)
    · exact Bun.cells (Bun.step hHeld.2.2.2.2.2.2.2.2.2.2 hb4)
    clear hHeld hb4
    have hHeld := hNew
    clear hNew
    clear hK K
    try simp only [Act.put, List.setIfInBounds_toArray, List.set_cons_zero, List.set_cons_succ]
    refine wpAnyH_take (i := 4) (oi := { dst := some 9, op := Op.binOp BinOp.eql 145 (Operand.tmp 6) (Operand.tmp 8) 145, type := 4, pos := "l16_model.go:84", after := #[{ on := 1, ground := Ground.data }, { on := 3, ground := Ground.data }], guard := none }) (v := .bool false) rfl (by kernel_rfl) (by kernel_rfl) (by kernel_rfl) (fun _ _ _ h => h) (Or.inl ⟨by rfl, ?hb14⟩) hHeld ?rb14
    case hb14 => intro w hSw; (try dsimp only at hSw); clear hSw; go_simp; first | exact HIF.out _ | exact HNE.out rfl | exact HNE.out trivial | exact HNE.out
    try simp only [Act.put, List.setIfInBounds_toArray, List.set_cons_zero, List.set_cons_succ]
    refine wpAnyH_take (i := 5) (oi := { dst := some 10, op := Op.move (Operand.tmp 9), type := 4, pos := "l16_model.go:84", after := #[{ on := 4, ground := Ground.data }, { on := 3, ground := Ground.chain }], guard := none }) (v := ?vb15) rfl (by kernel_rfl) (by kernel_rfl) (by kernel_rfl) (fun _ _ _ h => h) (Or.inl ⟨by rfl, ?hb15⟩) hHeld ?rb15
    case hb15 => intro w hSw; (try dsimp only at hSw); go_simp; try with_reducible rfl
    try simp only [Act.put, List.setIfInBounds_toArray, List.set_cons_zero, List.set_cons_succ]
    refine wpAnyH_take (i := 6) (oi := { dst := some 11, op := Op.fieldAddr 79 (Operand.tmp 2) 3, type := 0, pos := "l16_model.go:84", after := #[{ on := 5, ground := Ground.guard }], guard := some (5, true) }) (v := undef) rfl (by kernel_rfl) (by kernel_rfl) (by kernel_rfl) (fun _ _ _ h => h) (Or.inr ⟨by rfl, rfl⟩) hHeld ?_
    try simp only [Act.put, List.setIfInBounds_toArray, List.set_cons_zero, List.set_cons_succ]
    refine wpAnyH_take (i := 7) (oi := { dst := some 12, op := Op.load 67 (Operand.tmp 11), type := 67, pos := "l16_model.go:84", after := #[{ on := 6, ground := Ground.data }, { on := 5, ground := Ground.guard }], guard := some (5, true) }) (v := undef) rfl (by kernel_rfl) (by kernel_rfl) (by kernel_rfl) (fun _ _ _ h => h) (Or.inr ⟨by rfl, rfl⟩) hHeld ?_
    try simp only [Act.put, List.setIfInBounds_toArray, List.set_cons_zero, List.set_cons_succ]
    refine wpAnyH_take (i := 8) (oi := { dst := some 13, op := Op.fieldAddr 79 (Operand.tmp 3) 3, type := 0, pos := "l16_model.go:84", after := #[{ on := 5, ground := Ground.guard }], guard := some (5, true) }) (v := undef) rfl (by kernel_rfl) (by kernel_rfl) (by kernel_rfl) (fun _ _ _ h => h) (Or.inr ⟨by rfl, rfl⟩) hHeld ?_
    try simp only [Act.put, List.setIfInBounds_toArray, List.set_cons_zero, List.set_cons_succ]
    refine wpAnyH_take (i := 9) (oi := { dst := some 14, op := Op.load 67 (Operand.tmp 13), type := 67, pos := "l16_model.go:84", after := #[{ on := 8, ground := Ground.data }, { on := 5, ground := Ground.guard }], guard := some (5, true) }) (v := undef) rfl (by kernel_rfl) (by kernel_rfl) (by kernel_rfl) (fun _ _ _ h => h) (Or.inr ⟨by rfl, rfl⟩) hHeld ?_
    try simp only [Act.put, List.setIfInBounds_toArray, List.set_cons_zero, List.set_cons_succ]
    refine wpAnyH_take (i := 10) (oi := { dst := some 15, op := Op.call { callee := Callee.value (Operand.func 108), args := #[Operand.tmp 12, Operand.tmp 14], argTypes := #[67, 67] }, type := 4, pos := "l16_model.go:84", after := #[{ on := 7, ground := Ground.data }, { on := 9, ground := Ground.data }, { on := 5, ground := Ground.chain }, { on := 5, ground := Ground.guard }], guard := some (5, true) }) (v := undef) rfl (by kernel_rfl) (by kernel_rfl) (by kernel_rfl) (fun _ _ _ h => h) (Or.inr ⟨by rfl, rfl⟩) hHeld ?_
    try simp only [Act.put, List.setIfInBounds_toArray, List.set_cons_zero, List.set_cons_succ]
    refine wpAnyH_take (i := 11) (oi := { dst := some 16, op := Op.pick (Operand.tmp 10) (Operand.tmp 15) (Operand.const (Value.bool false)), type := 4, pos := "l16_model.go:84", after := #[{ on := 5, ground := Ground.data }, { on := 10, ground := Ground.data }], guard := none }) (v := ?vb111) rfl (by kernel_rfl) (by kernel_rfl) (by kernel_rfl) (fun _ _ _ h => h) (Or.inl ⟨by rfl, ?hb111⟩) hHeld ?rb111
    case hb111 => intro w hSw; (try dsimp only at hSw); go_simp; try with_reducible rfl
    try simp only [Act.put, List.setIfInBounds_toArray, List.set_cons_zero, List.set_cons_succ]
    refine wpAnyH_take (i := 12) (oi := { dst := some 17, op := Op.move (Operand.tmp 16), type := 4, pos := "l16_model.go:84", after := #[{ on := 11, ground := Ground.data }, { on := 10, ground := Ground.chain }], guard := none }) (v := ?vb112) rfl (by kernel_rfl) (by kernel_rfl) (by kernel_rfl) (fun _ _ _ h => h) (Or.inl ⟨by rfl, ?hb112⟩) hHeld ?rb112
    case hb112 => intro w hSw; (try dsimp only at hSw); go_simp; try with_reducible rfl
    try simp only [Act.put, List.setIfInBounds_toArray, List.set_cons_zero, List.set_cons_succ]
    refine wpAnyH_take (i := 13) (oi := { dst := some 18, op := Op.fieldAddr 79 (Operand.tmp 2) 4, type := 0, pos := "l16_model.go:84", after := #[{ on := 12, ground := Ground.guard }], guard := some (12, true) }) (v := undef) rfl (by kernel_rfl) (by kernel_rfl) (by kernel_rfl) (fun _ _ _ h => h) (Or.inr ⟨by rfl, rfl⟩) hHeld ?_
    try simp only [Act.put, List.setIfInBounds_toArray, List.set_cons_zero, List.set_cons_succ]
    refine wpAnyH_take (i := 14) (oi := { dst := some 19, op := Op.load 22 (Operand.tmp 18), type := 22, pos := "l16_model.go:84", after := #[{ on := 13, ground := Ground.data }, { on := 12, ground := Ground.guard }], guard := some (12, true) }) (v := undef) rfl (by kernel_rfl) (by kernel_rfl) (by kernel_rfl) (fun _ _ _ h => h) (Or.inr ⟨by rfl, rfl⟩) hHeld ?_
    try simp only [Act.put, List.setIfInBounds_toArray, List.set_cons_zero, List.set_cons_succ]
    refine wpAnyH_take (i := 15) (oi := { dst := some 20, op := Op.fieldAddr 79 (Operand.tmp 3) 4, type := 0, pos := "l16_model.go:84", after := #[{ on := 12, ground := Ground.guard }], guard := some (12, true) }) (v := undef) rfl (by kernel_rfl) (by kernel_rfl) (by kernel_rfl) (fun _ _ _ h => h) (Or.inr ⟨by rfl, rfl⟩) hHeld ?_
    try simp only [Act.put, List.setIfInBounds_toArray, List.set_cons_zero, List.set_cons_succ]
    refine wpAnyH_take (i := 16) (oi := { dst := some 21, op := Op.load 22 (Operand.tmp 20), type := 22, pos := "l16_model.go:84", after := #[{ on := 15, ground := Ground.data }, { on := 12, ground := Ground.guard }], guard := some (12, true) }) (v := undef) rfl (by kernel_rfl) (by kernel_rfl) (by kernel_rfl) (fun _ _ _ h => h) (Or.inr ⟨by rfl, rfl⟩) hHeld ?_
    try simp only [Act.put, List.setIfInBounds_toArray, List.set_cons_zero, List.set_cons_succ]
    refine wpAnyH_take (i := 17) (oi := { dst := some 22, op := Op.call { callee := Callee.value (Operand.func 109), args := #[Operand.tmp 19, Operand.tmp 21], argTypes := #[22, 22] }, type := 4, pos := "l16_model.go:84", after := #[{ on := 14, ground := Ground.data }, { on := 16, ground := Ground.data }, { on := 12, ground := Ground.chain }, { on := 12, ground := Ground.guard }], guard := some (12, true) }) (v := undef) rfl (by kernel_rfl) (by kernel_rfl) (by kernel_rfl) (fun _ _ _ h => h) (Or.inr ⟨by rfl, rfl⟩) hHeld ?_
    try simp only [Act.put, List.setIfInBounds_toArray, List.set_cons_zero, List.set_cons_succ]
    refine wpAnyH_take (i := 18) (oi := { dst := some 23, op := Op.pick (Operand.tmp 17) (Operand.tmp 22) (Operand.const (Value.bool false)), type := 4, pos := "l16_model.go:84", after := #[{ on := 12, ground := Ground.data }, { on := 17, ground := Ground.data }], guard := none }) (v := ?vb118) rfl (by kernel_rfl) (by kernel_rfl) (by kernel_rfl) (fun _ _ _ h => h) (Or.inl ⟨by rfl, ?hb118⟩) hHeld ?rb118
    case hb118 => intro w hSw; (try dsimp only at hSw); go_simp; try with_reducible rfl
    try simp only [Act.put, List.setIfInBounds_toArray, List.set_cons_zero, List.set_cons_succ]
    refine wpAnyH_take (i := 19) (oi := { dst := some 4, op := Op.assign (Operand.tmp 23), type := 4, pos := "l16_model.go:84", after := #[{ on := 18, ground := Ground.data }, { on := 17, ground := Ground.chain }, { on := 0, ground := Ground.phase }, { on := 1, ground := Ground.phase }, { on := 2, ground := Ground.phase }, { on := 3, ground := Ground.phase }, { on := 4, ground := Ground.phase }, { on := 5, ground := Ground.phase }, { on := 6, ground := Ground.phase }, { on := 7, ground := Ground.phase }, { on := 8, ground := Ground.phase }, { on := 9, ground := Ground.phase }, { on := 10, ground := Ground.phase }, { on := 11, ground := Ground.phase }, { on := 12, ground := Ground.phase }, { on := 13, ground := Ground.phase }, { on := 14, ground := Ground.phase }, { on := 15, ground := Ground.phase }, { on := 16, ground := Ground.phase }, { on := 17, ground := Ground.phase }, { on := 18, ground := Ground.phase }], guard := none }) (v := ?vb119) rfl (by kernel_rfl) (by kernel_rfl) (by kernel_rfl) (fun _ _ _ h => h) (Or.inl ⟨by rfl, ?hb119⟩) hHeld ?rb119
    case hb119 => intro w hSw; (try dsimp only at hSw); go_simp; try with_reducible rfl
    try simp only [Act.put, List.setIfInBounds_toArray, List.set_cons_zero, List.set_cons_succ]
    refine wpAnyH_done (by kernel_rfl) ?_ _
    have HU9 := hHeld.2.2.2.2.2.2.2.2.2.2
    clear hHeld
    go_wp2
    go_ret
    exact ⟨rfl, HU9.out.b⟩
  cases p
  · rw [show X = false from by rw [HX.out]; simp]
    clear HYE
    go_enter Try.func106, Try.ntmps106
    go_wp2_with fail
    refine wp_region_held_drew (S := (fun w' => w'.cell? ⟨w.heap.size, 0, none⟩ = some (.bool u) ∧ w'.cell? ⟨w.heap.size, 1, none⟩ = some (.bool r) ∧ w'.cell? ⟨w.heap.size, 2, none⟩ = some (.int .i64 g) ∧ w'.cell? ⟨w.heap.size, 3, none⟩ = some (.slice A n c) ∧ w'.cell? ⟨w.heap.size, 4, none⟩ = some (.slice B l e) ∧ w'.cell? ⟨w.heap.size + 1, 0, none⟩ = some (.bool u') ∧ w'.cell? ⟨w.heap.size + 1, 1, none⟩ = some (.bool r') ∧ w'.cell? ⟨w.heap.size + 1, 2, none⟩ = some (.int .i64 g') ∧ w'.cell? ⟨w.heap.size + 1, 3, none⟩ = some (.slice A' n' c') ∧ w'.cell? ⟨w.heap.size + 1, 4, none⟩ = some (.slice B' l' e') ∧ Hid (Bun w w.heap.size (w.heap.size + 1) #[.bool u, .bool r, .int .i64 g, .slice A n c, .slice B l e] #[.bool u', .bool r', .int .i64 g', .slice A' n' c', .slice B' l' e'] w'))) (by kernel_rfl) ?_ (fun hHeld => ?_)
    · exact Bun.cells (Bun.step HU (below_drew _))
    refine wpAnyH_take (i := 0) (oi := { dst := some 5, op := Op.load 79 (Operand.tmp 2), type := 79, pos := "l16_model.go:84", after := #[], guard := none }) (v := ?vc20) rfl (by kernel_rfl) (by kernel_rfl) (by kernel_rfl) (fun _ _ _ h => h) (Or.inl ⟨by rfl, ?hc20⟩) hHeld ?rc20
    case hc20 => intro w hSw; (try dsimp only at hSw); go_simp; try with_reducible rfl
    try simp only [Act.put, List.setIfInBounds_toArray, List.set_cons_zero, List.set_cons_succ]
    refine wpAnyH_take (i := 2) (oi := { dst := some 7, op := Op.load 79 (Operand.tmp 3), type := 79, pos := "l16_model.go:84", after := #[], guard := none }) (v := ?vc22) rfl (by kernel_rfl) (by kernel_rfl) (by kernel_rfl) (fun _ _ _ h => h) (Or.inl ⟨by rfl, ?hc22⟩) hHeld ?rc22
    case hc22 => intro w hSw; (try dsimp only at hSw); go_simp; try with_reducible rfl
    try simp only [Act.put, List.setIfInBounds_toArray, List.set_cons_zero, List.set_cons_succ]
    refine wpAnyH_ready (rs := [1]) (by kernel_rfl) (by simp) ?_
    refine AllReadyH.cons (o := { dst := some 6, op := Op.call { callee := Callee.value (Operand.func 107), args := #[Operand.tmp 5], argTypes := #[79] }, type := 145, pos := "l16_model.go:84", after := #[{ on := 0, ground := Ground.data }], guard := none }) rfl (fun K hK => ?_) AllReadyH.nil
    go_simp
    refine (slot _ u r g _ _).mono ?_
    rintro e3 w3 ⟨rfl, hb3⟩
    try go_wp2_with fail
    refine hK.out _ _ ?_ (fun hNew => ?_)
    · exact Bun.cells (Bun.step hHeld.2.2.2.2.2.2.2.2.2.2 hb3)
    clear hHeld hb3
    have hHeld := hNew
    clear hNew
    clear hK K
    try simp only [Act.put, List.setIfInBounds_toArray, List.set_cons_zero, List.set_cons_succ]
    refine wpAnyH_ready (rs := [3]) (by kernel_rfl) (by simp) ?_
    refine AllReadyH.cons (o := { dst := some 8, op := Op.call { callee := Callee.value (Operand.func 107), args := #[Operand.tmp 7], argTypes := #[79] }, type := 145, pos := "l16_model.go:84", after := #[{ on := 2, ground := Ground.data }, { on := 1, ground := Ground.chain }], guard := none }) rfl (fun K hK => ?_) AllReadyH.nil
    go_simp
    refine (slot _ u' r' g' _ _).mono ?_
    rintro e4 w4 ⟨rfl, hb4⟩
    try go_wp2_with fail
    refine hK.out _ _ ?_ (fun hNew => ?_)
    · exact Bun.cells (Bun.step hHeld.2.2.2.2.2.2.2.2.2.2 hb4)
    clear hHeld hb4
    have hHeld := hNew
    clear hNew
    clear hK K
    try simp only [Act.put, List.setIfInBounds_toArray, List.set_cons_zero, List.set_cons_succ]
    refine wpAnyH_take (i := 4) (oi := { dst := some 9, op := Op.binOp BinOp.eql 145 (Operand.tmp 6) (Operand.tmp 8) 145, type := 4, pos := "l16_model.go:84", after := #[{ on := 1, ground := Ground.data }, { on := 3, ground := Ground.data }], guard := none }) (v := .bool true) rfl (by kernel_rfl) (by kernel_rfl) (by kernel_rfl) (fun _ _ _ h => h) (Or.inl ⟨by rfl, ?hc24⟩) hHeld ?rc24
    case hc24 => intro w hSw; (try dsimp only at hSw); clear hSw; go_simp; first | exact HIF.out _ | exact HNE.out rfl | exact HNE.out trivial | exact HNE.out
    try simp only [Act.put, List.setIfInBounds_toArray, List.set_cons_zero, List.set_cons_succ]
    refine wpAnyH_take (i := 5) (oi := { dst := some 10, op := Op.move (Operand.tmp 9), type := 4, pos := "l16_model.go:84", after := #[{ on := 4, ground := Ground.data }, { on := 3, ground := Ground.chain }], guard := none }) (v := ?vc25) rfl (by kernel_rfl) (by kernel_rfl) (by kernel_rfl) (fun _ _ _ h => h) (Or.inl ⟨by rfl, ?hc25⟩) hHeld ?rc25
    case hc25 => intro w hSw; (try dsimp only at hSw); go_simp; try with_reducible rfl
    try simp only [Act.put, List.setIfInBounds_toArray, List.set_cons_zero, List.set_cons_succ]
    refine wpAnyH_take (i := 6) (oi := { dst := some 11, op := Op.fieldAddr 79 (Operand.tmp 2) 3, type := 0, pos := "l16_model.go:84", after := #[{ on := 5, ground := Ground.guard }], guard := some (5, true) }) (v := ?vc26) rfl (by kernel_rfl) (by kernel_rfl) (by kernel_rfl) (fun _ _ _ h => h) (Or.inl ⟨by rfl, ?hc26⟩) hHeld ?rc26
    case hc26 => intro w hSw; (try dsimp only at hSw); go_simp; try with_reducible rfl
    try simp only [Act.put, List.setIfInBounds_toArray, List.set_cons_zero, List.set_cons_succ]
    refine wpAnyH_take (i := 7) (oi := { dst := some 12, op := Op.load 67 (Operand.tmp 11), type := 67, pos := "l16_model.go:84", after := #[{ on := 6, ground := Ground.data }, { on := 5, ground := Ground.guard }], guard := some (5, true) }) (v := ?vc27) rfl (by kernel_rfl) (by kernel_rfl) (by kernel_rfl) (fun _ _ _ h => h) (Or.inl ⟨by rfl, ?hc27⟩) hHeld ?rc27
    case hc27 => intro w hSw; (try dsimp only at hSw); go_simp; try with_reducible rfl
    try simp only [Act.put, List.setIfInBounds_toArray, List.set_cons_zero, List.set_cons_succ]
    refine wpAnyH_take (i := 8) (oi := { dst := some 13, op := Op.fieldAddr 79 (Operand.tmp 3) 3, type := 0, pos := "l16_model.go:84", after := #[{ on := 5, ground := Ground.guard }], guard := some (5, true) }) (v := ?vc28) rfl (by kernel_rfl) (by kernel_rfl) (by kernel_rfl) (fun _ _ _ h => h) (Or.inl ⟨by rfl, ?hc28⟩) hHeld ?rc28
    case hc28 => intro w hSw; (try dsimp only at hSw); go_simp; try with_reducible rfl
    try simp only [Act.put, List.setIfInBounds_toArray, List.set_cons_zero, List.set_cons_succ]
    refine wpAnyH_take (i := 9) (oi := { dst := some 14, op := Op.load 67 (Operand.tmp 13), type := 67, pos := "l16_model.go:84", after := #[{ on := 8, ground := Ground.data }, { on := 5, ground := Ground.guard }], guard := some (5, true) }) (v := ?vc29) rfl (by kernel_rfl) (by kernel_rfl) (by kernel_rfl) (fun _ _ _ h => h) (Or.inl ⟨by rfl, ?hc29⟩) hHeld ?rc29
    case hc29 => intro w hSw; (try dsimp only at hSw); go_simp; try with_reducible rfl
    try simp only [Act.put, List.setIfInBounds_toArray, List.set_cons_zero, List.set_cons_succ]
    refine wpAnyH_ready (rs := [10]) (by kernel_rfl) (by simp) ?_
    refine AllReadyH.cons (o := { dst := some 15, op := Op.call { callee := Callee.value (Operand.func 108), args := #[Operand.tmp 12, Operand.tmp 14], argTypes := #[67, 67] }, type := 4, pos := "l16_model.go:84", after := #[{ on := 7, ground := Ground.data }, { on := 9, ground := Ground.data }, { on := 5, ground := Ground.chain }, { on := 5, ground := Ground.guard }], guard := some (5, true) }) rfl (fun K hK => ?_) AllReadyH.nil
    go_simp
    refine (HXE.out _ hHeld.2.2.2.2.2.2.2.2.2.2.out.b).mono ?_
    rintro e5 w5 ⟨rfl, hb5⟩
    try go_wp2_with fail
    refine hK.out _ _ ?_ (fun hNew => ?_)
    · exact Bun.cells (Bun.step hHeld.2.2.2.2.2.2.2.2.2.2 hb5)
    clear hHeld hb5
    have hHeld := hNew
    clear hNew
    clear hK K
    try simp only [Act.put, List.setIfInBounds_toArray, List.set_cons_zero, List.set_cons_succ]
    refine wpAnyH_take (i := 11) (oi := { dst := some 16, op := Op.pick (Operand.tmp 10) (Operand.tmp 15) (Operand.const (Value.bool false)), type := 4, pos := "l16_model.go:84", after := #[{ on := 5, ground := Ground.data }, { on := 10, ground := Ground.data }], guard := none }) (v := ?vc211) rfl (by kernel_rfl) (by kernel_rfl) (by kernel_rfl) (fun _ _ _ h => h) (Or.inl ⟨by rfl, ?hc211⟩) hHeld ?rc211
    case hc211 => intro w hSw; (try dsimp only at hSw); go_simp; try with_reducible rfl
    try simp only [Act.put, List.setIfInBounds_toArray, List.set_cons_zero, List.set_cons_succ]
    refine wpAnyH_take (i := 12) (oi := { dst := some 17, op := Op.move (Operand.tmp 16), type := 4, pos := "l16_model.go:84", after := #[{ on := 11, ground := Ground.data }, { on := 10, ground := Ground.chain }], guard := none }) (v := ?vc212) rfl (by kernel_rfl) (by kernel_rfl) (by kernel_rfl) (fun _ _ _ h => h) (Or.inl ⟨by rfl, ?hc212⟩) hHeld ?rc212
    case hc212 => intro w hSw; (try dsimp only at hSw); go_simp; try with_reducible rfl
    try simp only [Act.put, List.setIfInBounds_toArray, List.set_cons_zero, List.set_cons_succ]
    refine wpAnyH_take (i := 13) (oi := { dst := some 18, op := Op.fieldAddr 79 (Operand.tmp 2) 4, type := 0, pos := "l16_model.go:84", after := #[{ on := 12, ground := Ground.guard }], guard := some (12, true) }) (v := undef) rfl (by kernel_rfl) (by kernel_rfl) (by kernel_rfl) (fun _ _ _ h => h) (Or.inr ⟨by rfl, rfl⟩) hHeld ?_
    try simp only [Act.put, List.setIfInBounds_toArray, List.set_cons_zero, List.set_cons_succ]
    refine wpAnyH_take (i := 14) (oi := { dst := some 19, op := Op.load 22 (Operand.tmp 18), type := 22, pos := "l16_model.go:84", after := #[{ on := 13, ground := Ground.data }, { on := 12, ground := Ground.guard }], guard := some (12, true) }) (v := undef) rfl (by kernel_rfl) (by kernel_rfl) (by kernel_rfl) (fun _ _ _ h => h) (Or.inr ⟨by rfl, rfl⟩) hHeld ?_
    try simp only [Act.put, List.setIfInBounds_toArray, List.set_cons_zero, List.set_cons_succ]
    refine wpAnyH_take (i := 15) (oi := { dst := some 20, op := Op.fieldAddr 79 (Operand.tmp 3) 4, type := 0, pos := "l16_model.go:84", after := #[{ on := 12, ground := Ground.guard }], guard := some (12, true) }) (v := undef) rfl (by kernel_rfl) (by kernel_rfl) (by kernel_rfl) (fun _ _ _ h => h) (Or.inr ⟨by rfl, rfl⟩) hHeld ?_
    try simp only [Act.put, List.setIfInBounds_toArray, List.set_cons_zero, List.set_cons_succ]
    refine wpAnyH_take (i := 16) (oi := { dst := some 21, op := Op.load 22 (Operand.tmp 20), type := 22, pos := "l16_model.go:84", after := #[{ on := 15, ground := Ground.data }, { on := 12, ground := Ground.guard }], guard := some (12, true) }) (v := undef) rfl (by kernel_rfl) (by kernel_rfl) (by kernel_rfl) (fun _ _ _ h => h) (Or.inr ⟨by rfl, rfl⟩) hHeld ?_
    try simp only [Act.put, List.setIfInBounds_toArray, List.set_cons_zero, List.set_cons_succ]
    refine wpAnyH_take (i := 17) (oi := { dst := some 22, op := Op.call { callee := Callee.value (Operand.func 109), args := #[Operand.tmp 19, Operand.tmp 21], argTypes := #[22, 22] }, type := 4, pos := "l16_model.go:84", after := #[{ on := 14, ground := Ground.data }, { on := 16, ground := Ground.data }, { on := 12, ground := Ground.chain }, { on := 12, ground := Ground.guard }], guard := some (12, true) }) (v := undef) rfl (by kernel_rfl) (by kernel_rfl) (by kernel_rfl) (fun _ _ _ h => h) (Or.inr ⟨by rfl, rfl⟩) hHeld ?_
    try simp only [Act.put, List.setIfInBounds_toArray, List.set_cons_zero, List.set_cons_succ]
    refine wpAnyH_take (i := 18) (oi := { dst := some 23, op := Op.pick (Operand.tmp 17) (Operand.tmp 22) (Operand.const (Value.bool false)), type := 4, pos := "l16_model.go:84", after := #[{ on := 12, ground := Ground.data }, { on := 17, ground := Ground.data }], guard := none }) (v := ?vc218) rfl (by kernel_rfl) (by kernel_rfl) (by kernel_rfl) (fun _ _ _ h => h) (Or.inl ⟨by rfl, ?hc218⟩) hHeld ?rc218
    case hc218 => intro w hSw; (try dsimp only at hSw); go_simp; try with_reducible rfl
    try simp only [Act.put, List.setIfInBounds_toArray, List.set_cons_zero, List.set_cons_succ]
    refine wpAnyH_take (i := 19) (oi := { dst := some 4, op := Op.assign (Operand.tmp 23), type := 4, pos := "l16_model.go:84", after := #[{ on := 18, ground := Ground.data }, { on := 17, ground := Ground.chain }, { on := 0, ground := Ground.phase }, { on := 1, ground := Ground.phase }, { on := 2, ground := Ground.phase }, { on := 3, ground := Ground.phase }, { on := 4, ground := Ground.phase }, { on := 5, ground := Ground.phase }, { on := 6, ground := Ground.phase }, { on := 7, ground := Ground.phase }, { on := 8, ground := Ground.phase }, { on := 9, ground := Ground.phase }, { on := 10, ground := Ground.phase }, { on := 11, ground := Ground.phase }, { on := 12, ground := Ground.phase }, { on := 13, ground := Ground.phase }, { on := 14, ground := Ground.phase }, { on := 15, ground := Ground.phase }, { on := 16, ground := Ground.phase }, { on := 17, ground := Ground.phase }, { on := 18, ground := Ground.phase }], guard := none }) (v := ?vc219) rfl (by kernel_rfl) (by kernel_rfl) (by kernel_rfl) (fun _ _ _ h => h) (Or.inl ⟨by rfl, ?hc219⟩) hHeld ?rc219
    case hc219 => intro w hSw; (try dsimp only at hSw); go_simp; try with_reducible rfl
    try simp only [Act.put, List.setIfInBounds_toArray, List.set_cons_zero, List.set_cons_succ]
    refine wpAnyH_done (by kernel_rfl) ?_ _
    have HU9 := hHeld.2.2.2.2.2.2.2.2.2.2
    clear hHeld
    go_wp2
    go_ret
    exact ⟨rfl, HU9.out.b⟩
  · rw [show X = q from by rw [HX.out]; simp]
    go_enter Try.func106, Try.ntmps106
    go_wp2_with fail
    refine wp_region_held_drew (S := (fun w' => w'.cell? ⟨w.heap.size, 0, none⟩ = some (.bool u) ∧ w'.cell? ⟨w.heap.size, 1, none⟩ = some (.bool r) ∧ w'.cell? ⟨w.heap.size, 2, none⟩ = some (.int .i64 g) ∧ w'.cell? ⟨w.heap.size, 3, none⟩ = some (.slice A n c) ∧ w'.cell? ⟨w.heap.size, 4, none⟩ = some (.slice B l e) ∧ w'.cell? ⟨w.heap.size + 1, 0, none⟩ = some (.bool u') ∧ w'.cell? ⟨w.heap.size + 1, 1, none⟩ = some (.bool r') ∧ w'.cell? ⟨w.heap.size + 1, 2, none⟩ = some (.int .i64 g') ∧ w'.cell? ⟨w.heap.size + 1, 3, none⟩ = some (.slice A' n' c') ∧ w'.cell? ⟨w.heap.size + 1, 4, none⟩ = some (.slice B' l' e') ∧ Hid (Bun w w.heap.size (w.heap.size + 1) #[.bool u, .bool r, .int .i64 g, .slice A n c, .slice B l e] #[.bool u', .bool r', .int .i64 g', .slice A' n' c', .slice B' l' e'] w'))) (by kernel_rfl) ?_ (fun hHeld => ?_)
    · exact Bun.cells (Bun.step HU (below_drew _))
    refine wpAnyH_take (i := 0) (oi := { dst := some 5, op := Op.load 79 (Operand.tmp 2), type := 79, pos := "l16_model.go:84", after := #[], guard := none }) (v := ?vd30) rfl (by kernel_rfl) (by kernel_rfl) (by kernel_rfl) (fun _ _ _ h => h) (Or.inl ⟨by rfl, ?hd30⟩) hHeld ?rd30
    case hd30 => intro w hSw; (try dsimp only at hSw); go_simp; try with_reducible rfl
    try simp only [Act.put, List.setIfInBounds_toArray, List.set_cons_zero, List.set_cons_succ]
    refine wpAnyH_take (i := 2) (oi := { dst := some 7, op := Op.load 79 (Operand.tmp 3), type := 79, pos := "l16_model.go:84", after := #[], guard := none }) (v := ?vd32) rfl (by kernel_rfl) (by kernel_rfl) (by kernel_rfl) (fun _ _ _ h => h) (Or.inl ⟨by rfl, ?hd32⟩) hHeld ?rd32
    case hd32 => intro w hSw; (try dsimp only at hSw); go_simp; try with_reducible rfl
    try simp only [Act.put, List.setIfInBounds_toArray, List.set_cons_zero, List.set_cons_succ]
    refine wpAnyH_ready (rs := [1]) (by kernel_rfl) (by simp) ?_
    refine AllReadyH.cons (o := { dst := some 6, op := Op.call { callee := Callee.value (Operand.func 107), args := #[Operand.tmp 5], argTypes := #[79] }, type := 145, pos := "l16_model.go:84", after := #[{ on := 0, ground := Ground.data }], guard := none }) rfl (fun K hK => ?_) AllReadyH.nil
    go_simp
    refine (slot _ u r g _ _).mono ?_
    rintro e3 w3 ⟨rfl, hb3⟩
    try go_wp2_with fail
    refine hK.out _ _ ?_ (fun hNew => ?_)
    · exact Bun.cells (Bun.step hHeld.2.2.2.2.2.2.2.2.2.2 hb3)
    clear hHeld hb3
    have hHeld := hNew
    clear hNew
    clear hK K
    try simp only [Act.put, List.setIfInBounds_toArray, List.set_cons_zero, List.set_cons_succ]
    refine wpAnyH_ready (rs := [3]) (by kernel_rfl) (by simp) ?_
    refine AllReadyH.cons (o := { dst := some 8, op := Op.call { callee := Callee.value (Operand.func 107), args := #[Operand.tmp 7], argTypes := #[79] }, type := 145, pos := "l16_model.go:84", after := #[{ on := 2, ground := Ground.data }, { on := 1, ground := Ground.chain }], guard := none }) rfl (fun K hK => ?_) AllReadyH.nil
    go_simp
    refine (slot _ u' r' g' _ _).mono ?_
    rintro e4 w4 ⟨rfl, hb4⟩
    try go_wp2_with fail
    refine hK.out _ _ ?_ (fun hNew => ?_)
    · exact Bun.cells (Bun.step hHeld.2.2.2.2.2.2.2.2.2.2 hb4)
    clear hHeld hb4
    have hHeld := hNew
    clear hNew
    clear hK K
    try simp only [Act.put, List.setIfInBounds_toArray, List.set_cons_zero, List.set_cons_succ]
    refine wpAnyH_take (i := 4) (oi := { dst := some 9, op := Op.binOp BinOp.eql 145 (Operand.tmp 6) (Operand.tmp 8) 145, type := 4, pos := "l16_model.go:84", after := #[{ on := 1, ground := Ground.data }, { on := 3, ground := Ground.data }], guard := none }) (v := .bool true) rfl (by kernel_rfl) (by kernel_rfl) (by kernel_rfl) (fun _ _ _ h => h) (Or.inl ⟨by rfl, ?hd34⟩) hHeld ?rd34
    case hd34 => intro w hSw; (try dsimp only at hSw); clear hSw; go_simp; first | exact HIF.out _ | exact HNE.out rfl | exact HNE.out trivial | exact HNE.out
    try simp only [Act.put, List.setIfInBounds_toArray, List.set_cons_zero, List.set_cons_succ]
    refine wpAnyH_take (i := 5) (oi := { dst := some 10, op := Op.move (Operand.tmp 9), type := 4, pos := "l16_model.go:84", after := #[{ on := 4, ground := Ground.data }, { on := 3, ground := Ground.chain }], guard := none }) (v := ?vd35) rfl (by kernel_rfl) (by kernel_rfl) (by kernel_rfl) (fun _ _ _ h => h) (Or.inl ⟨by rfl, ?hd35⟩) hHeld ?rd35
    case hd35 => intro w hSw; (try dsimp only at hSw); go_simp; try with_reducible rfl
    try simp only [Act.put, List.setIfInBounds_toArray, List.set_cons_zero, List.set_cons_succ]
    refine wpAnyH_take (i := 6) (oi := { dst := some 11, op := Op.fieldAddr 79 (Operand.tmp 2) 3, type := 0, pos := "l16_model.go:84", after := #[{ on := 5, ground := Ground.guard }], guard := some (5, true) }) (v := ?vd36) rfl (by kernel_rfl) (by kernel_rfl) (by kernel_rfl) (fun _ _ _ h => h) (Or.inl ⟨by rfl, ?hd36⟩) hHeld ?rd36
    case hd36 => intro w hSw; (try dsimp only at hSw); go_simp; try with_reducible rfl
    try simp only [Act.put, List.setIfInBounds_toArray, List.set_cons_zero, List.set_cons_succ]
    refine wpAnyH_take (i := 7) (oi := { dst := some 12, op := Op.load 67 (Operand.tmp 11), type := 67, pos := "l16_model.go:84", after := #[{ on := 6, ground := Ground.data }, { on := 5, ground := Ground.guard }], guard := some (5, true) }) (v := ?vd37) rfl (by kernel_rfl) (by kernel_rfl) (by kernel_rfl) (fun _ _ _ h => h) (Or.inl ⟨by rfl, ?hd37⟩) hHeld ?rd37
    case hd37 => intro w hSw; (try dsimp only at hSw); go_simp; try with_reducible rfl
    try simp only [Act.put, List.setIfInBounds_toArray, List.set_cons_zero, List.set_cons_succ]
    refine wpAnyH_take (i := 8) (oi := { dst := some 13, op := Op.fieldAddr 79 (Operand.tmp 3) 3, type := 0, pos := "l16_model.go:84", after := #[{ on := 5, ground := Ground.guard }], guard := some (5, true) }) (v := ?vd38) rfl (by kernel_rfl) (by kernel_rfl) (by kernel_rfl) (fun _ _ _ h => h) (Or.inl ⟨by rfl, ?hd38⟩) hHeld ?rd38
    case hd38 => intro w hSw; (try dsimp only at hSw); go_simp; try with_reducible rfl
    try simp only [Act.put, List.setIfInBounds_toArray, List.set_cons_zero, List.set_cons_succ]
    refine wpAnyH_take (i := 9) (oi := { dst := some 14, op := Op.load 67 (Operand.tmp 13), type := 67, pos := "l16_model.go:84", after := #[{ on := 8, ground := Ground.data }, { on := 5, ground := Ground.guard }], guard := some (5, true) }) (v := ?vd39) rfl (by kernel_rfl) (by kernel_rfl) (by kernel_rfl) (fun _ _ _ h => h) (Or.inl ⟨by rfl, ?hd39⟩) hHeld ?rd39
    case hd39 => intro w hSw; (try dsimp only at hSw); go_simp; try with_reducible rfl
    try simp only [Act.put, List.setIfInBounds_toArray, List.set_cons_zero, List.set_cons_succ]
    refine wpAnyH_ready (rs := [10]) (by kernel_rfl) (by simp) ?_
    refine AllReadyH.cons (o := { dst := some 15, op := Op.call { callee := Callee.value (Operand.func 108), args := #[Operand.tmp 12, Operand.tmp 14], argTypes := #[67, 67] }, type := 4, pos := "l16_model.go:84", after := #[{ on := 7, ground := Ground.data }, { on := 9, ground := Ground.data }, { on := 5, ground := Ground.chain }, { on := 5, ground := Ground.guard }], guard := some (5, true) }) rfl (fun K hK => ?_) AllReadyH.nil
    go_simp
    refine (HXE.out _ hHeld.2.2.2.2.2.2.2.2.2.2.out.b).mono ?_
    rintro e5 w5 ⟨rfl, hb5⟩
    try go_wp2_with fail
    refine hK.out _ _ ?_ (fun hNew => ?_)
    · exact Bun.cells (Bun.step hHeld.2.2.2.2.2.2.2.2.2.2 hb5)
    clear hHeld hb5
    have hHeld := hNew
    clear hNew
    clear hK K
    try simp only [Act.put, List.setIfInBounds_toArray, List.set_cons_zero, List.set_cons_succ]
    refine wpAnyH_take (i := 11) (oi := { dst := some 16, op := Op.pick (Operand.tmp 10) (Operand.tmp 15) (Operand.const (Value.bool false)), type := 4, pos := "l16_model.go:84", after := #[{ on := 5, ground := Ground.data }, { on := 10, ground := Ground.data }], guard := none }) (v := ?vd311) rfl (by kernel_rfl) (by kernel_rfl) (by kernel_rfl) (fun _ _ _ h => h) (Or.inl ⟨by rfl, ?hd311⟩) hHeld ?rd311
    case hd311 => intro w hSw; (try dsimp only at hSw); go_simp; try with_reducible rfl
    try simp only [Act.put, List.setIfInBounds_toArray, List.set_cons_zero, List.set_cons_succ]
    refine wpAnyH_take (i := 12) (oi := { dst := some 17, op := Op.move (Operand.tmp 16), type := 4, pos := "l16_model.go:84", after := #[{ on := 11, ground := Ground.data }, { on := 10, ground := Ground.chain }], guard := none }) (v := ?vd312) rfl (by kernel_rfl) (by kernel_rfl) (by kernel_rfl) (fun _ _ _ h => h) (Or.inl ⟨by rfl, ?hd312⟩) hHeld ?rd312
    case hd312 => intro w hSw; (try dsimp only at hSw); go_simp; try with_reducible rfl
    try simp only [Act.put, List.setIfInBounds_toArray, List.set_cons_zero, List.set_cons_succ]
    refine wpAnyH_take (i := 13) (oi := { dst := some 18, op := Op.fieldAddr 79 (Operand.tmp 2) 4, type := 0, pos := "l16_model.go:84", after := #[{ on := 12, ground := Ground.guard }], guard := some (12, true) }) (v := ?vd313) rfl (by kernel_rfl) (by kernel_rfl) (by kernel_rfl) (fun _ _ _ h => h) (Or.inl ⟨by rfl, ?hd313⟩) hHeld ?rd313
    case hd313 => intro w hSw; (try dsimp only at hSw); go_simp; try with_reducible rfl
    try simp only [Act.put, List.setIfInBounds_toArray, List.set_cons_zero, List.set_cons_succ]
    refine wpAnyH_take (i := 14) (oi := { dst := some 19, op := Op.load 22 (Operand.tmp 18), type := 22, pos := "l16_model.go:84", after := #[{ on := 13, ground := Ground.data }, { on := 12, ground := Ground.guard }], guard := some (12, true) }) (v := ?vd314) rfl (by kernel_rfl) (by kernel_rfl) (by kernel_rfl) (fun _ _ _ h => h) (Or.inl ⟨by rfl, ?hd314⟩) hHeld ?rd314
    case hd314 => intro w hSw; (try dsimp only at hSw); go_simp; try with_reducible rfl
    try simp only [Act.put, List.setIfInBounds_toArray, List.set_cons_zero, List.set_cons_succ]
    refine wpAnyH_take (i := 15) (oi := { dst := some 20, op := Op.fieldAddr 79 (Operand.tmp 3) 4, type := 0, pos := "l16_model.go:84", after := #[{ on := 12, ground := Ground.guard }], guard := some (12, true) }) (v := ?vd315) rfl (by kernel_rfl) (by kernel_rfl) (by kernel_rfl) (fun _ _ _ h => h) (Or.inl ⟨by rfl, ?hd315⟩) hHeld ?rd315
    case hd315 => intro w hSw; (try dsimp only at hSw); go_simp; try with_reducible rfl
    try simp only [Act.put, List.setIfInBounds_toArray, List.set_cons_zero, List.set_cons_succ]
    refine wpAnyH_take (i := 16) (oi := { dst := some 21, op := Op.load 22 (Operand.tmp 20), type := 22, pos := "l16_model.go:84", after := #[{ on := 15, ground := Ground.data }, { on := 12, ground := Ground.guard }], guard := some (12, true) }) (v := ?vd316) rfl (by kernel_rfl) (by kernel_rfl) (by kernel_rfl) (fun _ _ _ h => h) (Or.inl ⟨by rfl, ?hd316⟩) hHeld ?rd316
    case hd316 => intro w hSw; (try dsimp only at hSw); go_simp; try with_reducible rfl
    try simp only [Act.put, List.setIfInBounds_toArray, List.set_cons_zero, List.set_cons_succ]
    refine wpAnyH_ready (rs := [17]) (by kernel_rfl) (by simp) ?_
    refine AllReadyH.cons (o := { dst := some 22, op := Op.call { callee := Callee.value (Operand.func 109), args := #[Operand.tmp 19, Operand.tmp 21], argTypes := #[22, 22] }, type := 4, pos := "l16_model.go:84", after := #[{ on := 14, ground := Ground.data }, { on := 16, ground := Ground.data }, { on := 12, ground := Ground.chain }, { on := 12, ground := Ground.guard }], guard := some (12, true) }) rfl (fun K hK => ?_) AllReadyH.nil
    go_simp
    refine (HYE.out _ hHeld.2.2.2.2.2.2.2.2.2.2.out.b).mono ?_
    rintro e6 w6 ⟨rfl, hb6⟩
    try go_wp2_with fail
    refine hK.out _ _ ?_ (fun hNew => ?_)
    · exact Bun.cells (Bun.step hHeld.2.2.2.2.2.2.2.2.2.2 hb6)
    clear hHeld hb6
    have hHeld := hNew
    clear hNew
    clear hK K
    try simp only [Act.put, List.setIfInBounds_toArray, List.set_cons_zero, List.set_cons_succ]
    refine wpAnyH_take (i := 18) (oi := { dst := some 23, op := Op.pick (Operand.tmp 17) (Operand.tmp 22) (Operand.const (Value.bool false)), type := 4, pos := "l16_model.go:84", after := #[{ on := 12, ground := Ground.data }, { on := 17, ground := Ground.data }], guard := none }) (v := ?vd318) rfl (by kernel_rfl) (by kernel_rfl) (by kernel_rfl) (fun _ _ _ h => h) (Or.inl ⟨by rfl, ?hd318⟩) hHeld ?rd318
    case hd318 => intro w hSw; (try dsimp only at hSw); go_simp; try with_reducible rfl
    try simp only [Act.put, List.setIfInBounds_toArray, List.set_cons_zero, List.set_cons_succ]
    refine wpAnyH_take (i := 19) (oi := { dst := some 4, op := Op.assign (Operand.tmp 23), type := 4, pos := "l16_model.go:84", after := #[{ on := 18, ground := Ground.data }, { on := 17, ground := Ground.chain }, { on := 0, ground := Ground.phase }, { on := 1, ground := Ground.phase }, { on := 2, ground := Ground.phase }, { on := 3, ground := Ground.phase }, { on := 4, ground := Ground.phase }, { on := 5, ground := Ground.phase }, { on := 6, ground := Ground.phase }, { on := 7, ground := Ground.phase }, { on := 8, ground := Ground.phase }, { on := 9, ground := Ground.phase }, { on := 10, ground := Ground.phase }, { on := 11, ground := Ground.phase }, { on := 12, ground := Ground.phase }, { on := 13, ground := Ground.phase }, { on := 14, ground := Ground.phase }, { on := 15, ground := Ground.phase }, { on := 16, ground := Ground.phase }, { on := 17, ground := Ground.phase }, { on := 18, ground := Ground.phase }], guard := none }) (v := ?vd319) rfl (by kernel_rfl) (by kernel_rfl) (by kernel_rfl) (fun _ _ _ h => h) (Or.inl ⟨by rfl, ?hd319⟩) hHeld ?rd319
    case hd319 => intro w hSw; (try dsimp only at hSw); go_simp; try with_reducible rfl
    try simp only [Act.put, List.setIfInBounds_toArray, List.set_cons_zero, List.set_cons_succ]
    refine wpAnyH_done (by kernel_rfl) ?_ _
    have HU9 := hHeld.2.2.2.2.2.2.2.2.2.2
    clear hHeld
    go_wp2
    go_ret
    exact ⟨rfl, HU9.out.b⟩

set_option maxRecDepth 100000 in
set_option maxHeartbeats 1000000 in
theorem eachT (w : World) {la ha lb hb : Nat} {va vb : Value} {K K' : List Th} {nm : String} (hnm : ∀ (N : Nat), N = Try.prog.types.size + Made.depth → ∀ (w : World) (a : Value), (method N 79 a nm).run Try.prog w = .ok (106, a) w) (hA : RdG 5 thS w la ha va K) (hB : RdG 5 thS w lb hb vb K') :
    Calls Try.prog 104 #[va, vb, .func (.methodOf 79 nm) #[] #[]] w (RetV w (.bool (allB sameTh K K'))) := by
  have HXA := Lib.hid hA
  have HXB := Lib.hid hB
  obtain ⟨A, ca, rfl, hca, hma⟩ := hA.form
  obtain ⟨B, cb, rfl, hcb, hmb⟩ := hB.form
  clear hA hB
  obtain ⟨n, hn⟩ : ∃ n, n = K.length := ⟨_, rfl⟩
  obtain ⟨m, hm⟩ : ∃ m, m = K'.length := ⟨_, rfl⟩
  have HN := Lib.hid hn
  have HM := Lib.hid hm
  rw [← hn] at HXA hca ⊢
  rw [← hm] at HXB hcb ⊢
  have hnm9 : n ≤ 9223372036854775807 := by unfold maxLen at hma; omega
  obtain ⟨X, hX⟩ : ∃ X, X = allB sameTh K K' := ⟨_, rfl⟩
  have HX := Lib.hid hX
  rw [← hX]
  clear hn hm hma hmb hca hcb hX
  by_cases hl : n = m
  case neg =>
    have hl' : ((n : Int) == (m : Int)) = false := by rw [beq_eq_false_iff_ne]; omega
    have hl2 : ((n : Int) != (m : Int)) = true := by rw [bne_iff_ne]; omega
    have HF : Hid (X = false) := Lib.hid (by rw [HX.out]; exact allB_len (by have := HN.out; have := HM.out; omega))
    rw [HF.out]
    go_enter Try.func104, Try.ntmps104
    go_wp2
    go_ret
    exact ⟨rfl, Below.refl _ _⟩
  subst hl
  go_enter Try.func104, Try.ntmps104
  go_wp2_with fail
  go_loopw [17] (fun i wr => ∃ k : Nat, k ≤ n ∧ i = .int .i64 k ∧ Hid (X = allB sameTh (K.drop k) (K'.drop k)) ∧ Hid (Below w.heap.size w wr)) (fun i _ => n - (intOf i).toNat)
  case atStart => exact ⟨0, Nat.zero_le _, rfl, HX, Lib.hid (Below.refl _ _)⟩
  case round =>
    obtain ⟨k, hk, rfl, ho, hbo⟩ := hrel
    by_cases hlt : k < n
    · obtain ⟨s, hs⟩ : ∃ p, K[k]? = some p := ⟨_, List.getElem?_eq_getElem (by have := HN.out; omega)⟩
      obtain ⟨t, ht⟩ : ∃ q, K'[k]? = some q := ⟨_, List.getElem?_eq_getElem (by have := HM.out; omega)⟩
      obtain ⟨v, hv⟩ : ∃ v, v = sameTh s t := ⟨_, rfl⟩
      have HST : Hid (X = (v && allB sameTh (K.drop (k + 1)) (K'.drop (k + 1)))) := Lib.hid (by rw [ho.out, allB_drop hs ht, hv])
      obtain ⟨b1, o1, vx, vy, rfl, hb1, x0, x1, x2, x3, x4, hx, hy⟩ := th_cells (HXA.out.below shTh hbo.out) hs
      obtain ⟨b2, o2, vz, vw, rfl, hb2, y0, y1, y2, y3, y4, hz, hw⟩ := th_cells (HXB.out.below shTh hbo.out) ht
      obtain ⟨Ax, nx, cx, rfl⟩ := rdR_form hx
      obtain ⟨Ay, ny, cy, rfl⟩ := rd_form hy
      obtain ⟨Az, nz, cz, rfl⟩ := rdR_form hz
      obtain ⟨Aw, nw, cw, rfl⟩ := rd_form hw
      have HCALL : Hid (∀ w2 : World, Below wr.heap.size wr w2 → Calls Try.prog 106 #[.agg #[.bool s.u, .bool s.r, .int .i64 s.g, .slice Ax nx cx, .slice Ay ny cy], .agg #[.bool t.u, .bool t.r, .int .i64 t.g, .slice Az nz cz, .slice Aw nw cw]] w2 (RetV w2 (.bool v))) := Lib.hid (fun w2 hb => by
        rw [hv]
        exact likeT w2 (hx.below hb) (hy.below hb) (hz.below hb) (hw.below hb))
      clear hs ht hx hy hz hw hv ho
      go_wp2_with fail
      refine (HCALL.out _ ?_).mono ?_
      · exact ((Below.refl _ _).alloc (Nat.le_refl _) _).alloc (by simp) _
      rintro e w9 ⟨rfl, hb9⟩
      have HBE : Hid (Below wr.heap.size wr w9) := Lib.hid (below_then (((Below.refl _ _).alloc (Nat.le_refl _) _).alloc (by simp) _) hb9 (Nat.le_refl _))
      clear hb9
      cases v
      · have HF : Hid (X = false) := Lib.hid (by rw [HST.out]; simp)
        go_wp2
        go_ret
        exact ⟨by rw [HF.out]; rfl, below_then hbo.out HBE.out (Nat.le_refl _)⟩
      · have HSK : Hid (X = allB sameTh (K.drop (k + 1)) (K'.drop (k + 1))) := Lib.hid (by rw [HST.out]; simp)
        go_wp2
        go_roundw
        case rel => exact ⟨k + 1, by omega, by go_num, HSK, Lib.hid (below_then hbo.out HBE.out (Nat.le_refl _))⟩
        case measure => simp [intOf]; omega
    · obtain rfl : k = n := by omega
      have HF : Hid (X = true) := Lib.hid (by
        rw [ho.out]
        exact allB_end (by have := HN.out; omega) (by have := HM.out; omega))
      go_wp2
      go_ret
      exact ⟨by rw [HF.out]; rfl, hbo.out⟩

set_option maxRecDepth 100000 in
set_option maxHeartbeats 1000000 in
theorem areT (w : World) {la ha lb hb : Nat} {va vb : Value} {K K' : List Th} (hA : RdG 5 thS w la ha va K) (hB : RdG 5 thS w lb hb vb K') :
    Calls Try.prog 103 #[va, vb] w (RetV w (.bool (allB sameTh K K'))) := by
  have HA := Lib.hid hA
  have HB := Lib.hid hB
  obtain ⟨A, n, c, rfl⟩ := rdG_form hA
  obtain ⟨B, l, e, rfl⟩ := rdG_form hB
  clear hA hB
  obtain ⟨X, hX⟩ : ∃ X, X = allB sameTh K K' := ⟨_, rfl⟩
  have HX := Lib.hid hX
  rw [← hX]
  clear hX
  go_enter Try.func103, Try.ntmps103
  go_wp2_with fail
  refine (eachT w (fun N hN w a => by subst hN; kernel_rfl) HA.out HB.out).mono ?_
  rintro e w1 ⟨rfl, hb1⟩
  have HB1 := Lib.hid hb1
  clear hb1
  go_wp2
  go_ret
  exact ⟨by rw [HX.out]; rfl, HB1.out⟩

set_option maxRecDepth 100000 in
set_option maxHeartbeats 2000000 in
theorem likeR (w : World) {a b : Rm} {la ha lb hb : Nat} {x x' : Value} (hx : RdG 5 thS w la ha x a.T) (hx' : RdG 5 thS w lb hb x' b.T) :
    Calls Try.prog 102 #[.agg #[.bool a.l, .int .i64 a.t, .int .i64 a.b, x], .agg #[.bool b.l, .int .i64 b.t, .int .i64 b.b, x']] w (RetV w (.bool (sameRm a b))) := by
  have HXE := Lib.hid (fun (w1 : World) (hb : Below w.heap.size w w1) => areT w1 (hx.below shTh hb) (hx'.below shTh hb))
  obtain ⟨A, n, c, rfl⟩ := rdG_form hx
  obtain ⟨A', n', c', rfl⟩ := rdG_form hx'
  obtain ⟨u, r, g, T⟩ := a
  obtain ⟨u', r', g', T'⟩ := b
  dsimp only at HXE ⊢
  obtain ⟨X, hX⟩ : ∃ X, X = sameRm ⟨u, r, g, T⟩ ⟨u', r', g', T'⟩ := ⟨_, rfl⟩
  obtain ⟨p, hp⟩ : ∃ p, p = allB sameTh T T' := ⟨_, rfl⟩
  have HX : Hid (X = (u == u' && (r == r' && (g == g' && p)))) := Lib.hid (by rw [hX, hp]; rfl)
  rw [← hX]
  rw [← hp] at HXE
  clear hx hx' hX hp
  have HB : Hid (Below w.heap.size w ((w.alloc (.cells #[.bool u, .int .i64 r, .int .i64 g, .slice A n c] 76)).alloc (.cells #[.bool u', .int .i64 r', .int .i64 g', .slice A' n' c'] 76))) := Lib.hid (((Below.refl _ _).alloc (Nat.le_refl _) _).alloc (by simp) _)
  by_cases hu : u = u'
  case neg =>
    have HF : Hid (X = false) := Lib.hid (by rw [HX.out]; simp [hu])
    rw [HF.out]
    cases u <;> cases u' <;> first | exact absurd rfl hu | clear hu
    · go_enter Try.func102, Try.ntmps102
      go_wp2
      go_ret
      exact ⟨rfl, HB.out⟩
    · go_enter Try.func102, Try.ntmps102
      go_wp2
      go_ret
      exact ⟨rfl, HB.out⟩
  subst hu
  by_cases hr : r = r'
  case neg =>
    have HF : Hid (X = false) := Lib.hid (by rw [HX.out]; simp [hr])
    rw [HF.out]
    have hg' := beq_of hr
    go_enter Try.func102, Try.ntmps102
    go_wp2
    go_ret
    exact ⟨by simp, HB.out⟩
  subst hr
  by_cases hg : g = g'
  case neg =>
    have HF : Hid (X = false) := Lib.hid (by rw [HX.out]; simp [hg])
    rw [HF.out]
    have hg' := beq_of hg
    go_enter Try.func102, Try.ntmps102
    go_wp2
    go_ret
    exact ⟨by simp, HB.out⟩
  subst hg
  have HXP : Hid (X = p) := Lib.hid (by rw [HX.out]; simp)
  rw [HXP.out]
  clear HX HXP
  go_enter Try.func102, Try.ntmps102
  go_wp2_with fail
  refine (HXE.out _ HB.out).mono ?_
  rintro e w1 ⟨rfl, hb1⟩
  have HB1 := Lib.hid (below_then HB.out hb1 (Nat.le_refl _))
  clear hb1
  go_wp2
  go_ret
  exact ⟨rfl, HB1.out⟩

set_option maxRecDepth 100000 in
set_option maxHeartbeats 1000000 in
theorem eachR (w : World) {la ha lb hb : Nat} {va vb : Value} {K K' : List Rm} {nm : String} (hnm : ∀ (N : Nat), N = Try.prog.types.size + Made.depth → ∀ (w : World) (a : Value), (method N 76 a nm).run Try.prog w = .ok (102, a) w) (hA : RdG 4 rmS w la ha va K) (hB : RdG 4 rmS w lb hb vb K') :
    Calls Try.prog 69 #[va, vb, .func (.methodOf 76 nm) #[] #[]] w (RetV w (.bool (allB sameRm K K'))) := by
  have HXA := Lib.hid hA
  have HXB := Lib.hid hB
  obtain ⟨A, ca, rfl, hca, hma⟩ := hA.form
  obtain ⟨B, cb, rfl, hcb, hmb⟩ := hB.form
  clear hA hB
  obtain ⟨n, hn⟩ : ∃ n, n = K.length := ⟨_, rfl⟩
  obtain ⟨m, hm⟩ : ∃ m, m = K'.length := ⟨_, rfl⟩
  have HN := Lib.hid hn
  have HM := Lib.hid hm
  rw [← hn] at HXA hca ⊢
  rw [← hm] at HXB hcb ⊢
  have hnm9 : n ≤ 9223372036854775807 := by unfold maxLen at hma; omega
  obtain ⟨X, hX⟩ : ∃ X, X = allB sameRm K K' := ⟨_, rfl⟩
  have HX := Lib.hid hX
  rw [← hX]
  clear hn hm hma hmb hca hcb hX
  by_cases hl : n = m
  case neg =>
    have hl' : ((n : Int) == (m : Int)) = false := by rw [beq_eq_false_iff_ne]; omega
    have hl2 : ((n : Int) != (m : Int)) = true := by rw [bne_iff_ne]; omega
    have HF : Hid (X = false) := Lib.hid (by rw [HX.out]; exact allB_len (by have := HN.out; have := HM.out; omega))
    rw [HF.out]
    go_enter Try.func69, Try.ntmps69
    go_wp2
    go_ret
    exact ⟨rfl, Below.refl _ _⟩
  subst hl
  go_enter Try.func69, Try.ntmps69
  go_wp2_with fail
  go_loopw [17] (fun i wr => ∃ k : Nat, k ≤ n ∧ i = .int .i64 k ∧ Hid (X = allB sameRm (K.drop k) (K'.drop k)) ∧ Hid (Below w.heap.size w wr)) (fun i _ => n - (intOf i).toNat)
  case atStart => exact ⟨0, Nat.zero_le _, rfl, HX, Lib.hid (Below.refl _ _)⟩
  case round =>
    obtain ⟨k, hk, rfl, ho, hbo⟩ := hrel
    by_cases hlt : k < n
    · obtain ⟨s, hs⟩ : ∃ p, K[k]? = some p := ⟨_, List.getElem?_eq_getElem (by have := HN.out; omega)⟩
      obtain ⟨t, ht⟩ : ∃ q, K'[k]? = some q := ⟨_, List.getElem?_eq_getElem (by have := HM.out; omega)⟩
      obtain ⟨v, hv⟩ : ∃ v, v = sameRm s t := ⟨_, rfl⟩
      have HST : Hid (X = (v && allB sameRm (K.drop (k + 1)) (K'.drop (k + 1)))) := Lib.hid (by rw [ho.out, allB_drop hs ht, hv])
      obtain ⟨b1, o1, vx, rfl, hb1, x0, x1, x2, x3, hx⟩ := rm_cells (HXA.out.below shRm hbo.out) hs
      obtain ⟨b2, o2, vz, rfl, hb2, y0, y1, y2, y3, hz⟩ := rm_cells (HXB.out.below shRm hbo.out) ht
      obtain ⟨Ax, nx, cx, rfl⟩ := rdG_form hx
      obtain ⟨Az, nz, cz, rfl⟩ := rdG_form hz
      have HCALL : Hid (∀ w2 : World, Below wr.heap.size wr w2 → Calls Try.prog 102 #[.agg #[.bool s.l, .int .i64 s.t, .int .i64 s.b, .slice Ax nx cx], .agg #[.bool t.l, .int .i64 t.t, .int .i64 t.b, .slice Az nz cz]] w2 (RetV w2 (.bool v))) := Lib.hid (fun w2 hb => by
        rw [hv]
        exact likeR w2 (hx.below shTh hb) (hz.below shTh hb))
      clear hs ht hx hz hv ho
      go_wp2_with fail
      refine (HCALL.out _ ?_).mono ?_
      · exact ((Below.refl _ _).alloc (Nat.le_refl _) _).alloc (by simp) _
      rintro e w9 ⟨rfl, hb9⟩
      have HBE : Hid (Below wr.heap.size wr w9) := Lib.hid (below_then (((Below.refl _ _).alloc (Nat.le_refl _) _).alloc (by simp) _) hb9 (Nat.le_refl _))
      clear hb9
      cases v
      · have HF : Hid (X = false) := Lib.hid (by rw [HST.out]; simp)
        go_wp2
        go_ret
        exact ⟨by rw [HF.out]; rfl, below_then hbo.out HBE.out (Nat.le_refl _)⟩
      · have HSK : Hid (X = allB sameRm (K.drop (k + 1)) (K'.drop (k + 1))) := Lib.hid (by rw [HST.out]; simp)
        go_wp2
        go_roundw
        case rel => exact ⟨k + 1, by omega, by go_num, HSK, Lib.hid (below_then hbo.out HBE.out (Nat.le_refl _))⟩
        case measure => simp [intOf]; omega
    · obtain rfl : k = n := by omega
      have HF : Hid (X = true) := Lib.hid (by
        rw [ho.out]
        exact allB_end (by have := HN.out; omega) (by have := HM.out; omega))
      go_wp2
      go_ret
      exact ⟨by rw [HF.out]; rfl, hbo.out⟩

set_option maxRecDepth 100000 in
set_option maxHeartbeats 1000000 in
theorem areR (w : World) {la ha lb hb : Nat} {va vb : Value} {K K' : List Rm} (hA : RdG 4 rmS w la ha va K) (hB : RdG 4 rmS w lb hb vb K') :
    Calls Try.prog 51 #[va, vb] w (RetV w (.bool (allB sameRm K K'))) := by
  have HA := Lib.hid hA
  have HB := Lib.hid hB
  obtain ⟨A, n, c, rfl⟩ := rdG_form hA
  obtain ⟨B, l, e, rfl⟩ := rdG_form hB
  clear hA hB
  obtain ⟨X, hX⟩ : ∃ X, X = allB sameRm K K' := ⟨_, rfl⟩
  have HX := Lib.hid hX
  rw [← hX]
  clear hX
  go_enter Try.func51, Try.ntmps51
  go_wp2_with fail
  refine (eachR w (fun N hN w a => by subst hN; kernel_rfl) HA.out HB.out).mono ?_
  rintro e w1 ⟨rfl, hb1⟩
  have HB1 := Lib.hid hb1
  clear hb1
  go_wp2
  go_ret
  exact ⟨by rw [HX.out]; rfl, HB1.out⟩

set_option maxRecDepth 100000 in
set_option maxHeartbeats 2000000 in
theorem sameModel (w : World) {a b : Md} {la ha lb hb : Nat} {va vb : Value} (hA : RdM w la ha va a) (hB : RdM w lb hb vb b) :
    Calls Try.prog 23 #[va, vb] w (RetV w (.bool (sameMd a b))) := by
  obtain ⟨x, rfl, hx⟩ := hA
  obtain ⟨x', rfl, hx'⟩ := hB
  have HXE := Lib.hid (fun (w1 : World) (hb : Below w.heap.size w w1) => areR w1 (hx.below shRm hb) (hx'.below shRm hb))
  obtain ⟨A, n, c, rfl⟩ := rdG_form hx
  obtain ⟨A', n', c', rfl⟩ := rdG_form hx'
  obtain ⟨r, T, g⟩ := a
  obtain ⟨r', T', g'⟩ := b
  dsimp only at HXE ⊢
  obtain ⟨X, hX⟩ : ∃ X, X = sameMd ⟨r, T, g⟩ ⟨r', T', g'⟩ := ⟨_, rfl⟩
  obtain ⟨p, hp⟩ : ∃ p, p = allB sameRm T T' := ⟨_, rfl⟩
  have HX : Hid (X = (r == r' && (g == g' && p))) := Lib.hid (by rw [hX, hp]; rfl)
  rw [← hX]
  rw [← hp] at HXE
  clear hx hx' hX hp
  have HB : Hid (Below w.heap.size w ((w.alloc (.cells #[.int .i64 r, .slice A n c, .int .i64 g] 44)).alloc (.cells #[.int .i64 r', .slice A' n' c', .int .i64 g'] 44))) := Lib.hid (((Below.refl _ _).alloc (Nat.le_refl _) _).alloc (by simp) _)
  have HK : Hid (Blk ((w.alloc (.cells #[.int .i64 r, .slice A n c, .int .i64 g] 44)).alloc (.cells #[.int .i64 r', .slice A' n' c', .int .i64 g'] 44)) w.heap.size #[.int .i64 r, .slice A n c, .int .i64 g] 44) := Lib.hid ((Blk.new w _ _).more _)
  have HL : Hid (Blk ((w.alloc (.cells #[.int .i64 r, .slice A n c, .int .i64 g] 44)).alloc (.cells #[.int .i64 r', .slice A' n' c', .int .i64 g'] 44)) (w.heap.size + 1) #[.int .i64 r', .slice A' n' c', .int .i64 g'] 44) := Lib.hid (by
    have := Blk.new (w.alloc (.cells #[.int .i64 r, .slice A n c, .int .i64 g] 44)) #[.int .i64 r', .slice A' n' c', .int .i64 g'] 44
    simpa using this)
  by_cases hr : r = r'
  case neg =>
    have HF : Hid (X = false) := Lib.hid (by rw [HX.out]; simp [hr])
    rw [HF.out]
    have hg' := beq_of hr
    go_enter Try.func23, Try.ntmps23
    go_wp2
    go_ret
    exact ⟨by simp, HB.out⟩
  subst hr
  cases p
  · have HF : Hid (X = false) := Lib.hid (by rw [HX.out]; simp)
    rw [HF.out]
    go_enter Try.func23, Try.ntmps23
    go_wp2_with fail
    refine (HXE.out _ HB.out).mono ?_
    rintro e w1 ⟨rfl, hb1⟩
    have HB1 := Lib.hid (below_then HB.out hb1 (Nat.le_refl _))
    clear hb1
    go_wp2
    go_ret
    exact ⟨rfl, HB1.out⟩
  · have HXP : Hid (X = (g == g')) := Lib.hid (by rw [HX.out]; simp)
    rw [HXP.out]
    clear HX HXP
    go_enter Try.func23, Try.ntmps23
    go_wp2_with fail
    refine (HXE.out _ HB.out).mono ?_
    rintro e w1 ⟨rfl, hb1⟩
    have HB1 := Lib.hid (below_then HB.out hb1 (Nat.le_refl _))
    have c2 : w1.cell? ⟨w.heap.size, 2, none⟩ = some (.int .i64 g) := (HK.out.below hb1).cell 2
    have d2 : w1.cell? ⟨w.heap.size + 1, 2, none⟩ = some (.int .i64 g') := (HL.out.below hb1).cell 2
    clear hb1
    go_wp2
    go_ret
    exact ⟨rfl, HB1.out⟩
end Go.Proofs.Ytmipkngikimjgaa.ModI
