/-
  Words for models in memory: things, rooms, models; toThing .. toModel copy them. At most 1048576 in all.
-/
import Derived.Test.YtmipkngikimjgaaPure16
import Derived.Test.YtmipkngikimjgaaRowLaws
namespace Go.Proofs.Ytmipkngikimjgaa.Mods
open Go.RowKit Go.Proofs.Ytmipkngikimjgaa.Mem Go.Proofs.Ytmipkngikimjgaa.Pure Go.Proofs.Ytmipkngikimjgaa.Help Go.Proofs.Ytmipkngikimjgaa.Seq Go.Proofs.Ytmipkngikimjgaa.Ints Go.Proofs.Ytmipkngikimjgaa.Nest
set_option linter.unusedVariables false

/-- The row r shows the thing, the room. -/
def thS (w : World) (lo hi : Nat) (k : Th) (r : List Value) : Prop :=
  ∃ x y, r = [.bool k.u, .bool k.r, .int .i64 k.g, x, y] ∧ RdR w lo hi 1 x (intR k.f) ∧ Rd w lo hi y k.d
def rmS (w : World) (lo hi : Nat) (k : Rm) (r : List Value) : Prop :=
  ∃ x, r = [.bool k.l, .int .i64 k.t, .int .i64 k.b, x] ∧ RdG 5 thS w lo hi x k.T
/-- The value v reads as the model. -/
def RdM (w : World) (lo hi : Nat) (v : Value) (M : Md) : Prop :=
  ∃ x, v = .agg #[.int .i64 M.s, x, .int .i64 M.n] ∧ RdG 4 rmS w lo hi x M.R

theorem rd_all {w : World} {lo hi : Nat} {v : Value} {L : List Int} (h : Rd w lo hi v L) : Rd w 0 w.heap.size v L := by
  obtain ⟨A, c, hv, hc, hm, hk⟩ := h
  refine ⟨A, c, hv, hc, hm, fun i hi => ?_⟩
  obtain ⟨b, o, hA, h1, h2, h3, h4⟩ := hk i hi
  exact ⟨b, o, hA, Nat.zero_le _, h3, h3, h4⟩
theorem shTh : Shows 5 thS where
  touch := by
    rintro w w' lo hi lo' hi' k r ⟨x, y, rfl, h1, h2⟩ ht hd
    exact ⟨x, y, rfl, h1.touch ht hd, h2.touch ht hd⟩
  more := by
    rintro w lo hi lo' hi' k r ⟨x, y, rfl, h1, h2⟩ q1 q2
    exact ⟨x, y, rfl, h1.more q1 q2, h2.more q1 q2⟩
  all := by
    rintro w lo hi k r ⟨x, y, rfl, h1, h2⟩
    exact ⟨x, y, rfl, Ints.rdR_all h1, rd_all h2⟩
  len := by
    rintro w lo hi k r ⟨x, y, rfl, h1, h2⟩
    rfl
theorem shRm : Shows 4 rmS where
  touch := by
    rintro w w' lo hi lo' hi' k r ⟨x, rfl, h1⟩ ht hd
    exact ⟨x, rfl, h1.touch shTh ht hd⟩
  more := by
    rintro w lo hi lo' hi' k r ⟨x, rfl, h1⟩ q1 q2
    exact ⟨x, rfl, h1.more shTh q1 q2⟩
  all := by
    rintro w lo hi k r ⟨x, rfl, h1⟩
    exact ⟨x, rfl, h1.all shTh⟩
  len := by
    rintro w lo hi k r ⟨x, rfl, h1⟩
    rfl
section
variable {w w' : World} {lo hi lo' hi' : Nat} {v : Value} {M : Md}
theorem RdM.touch (h : RdM w lo hi v M) (ht : OnlyIn lo' hi' w w') (hd : hi ≤ lo' ∨ hi' ≤ lo) : RdM w' lo hi v M := by
  obtain ⟨x, rfl, h1⟩ := h
  exact ⟨x, rfl, h1.touch shRm ht hd⟩
theorem RdM.below (h : RdM w lo hi v M) (hb : Below w.heap.size w w') : RdM w' lo hi v M := by
  obtain ⟨x, rfl, h1⟩ := h
  exact ⟨x, rfl, h1.below shRm hb⟩
theorem RdM.all (h : RdM w lo hi v M) : RdM w 0 w.heap.size v M := by
  obtain ⟨x, rfl, h1⟩ := h
  exact ⟨x, rfl, h1.all shRm⟩
end
/-- A thing's row, a room's row, in cells. -/
theorem th_cells {w : World} {lo hi n c i : Nat} {A : Option Addr} {K : List Th} {k : Th} (h : RdG 5 thS w lo hi (.slice A n c) K) (hk : K[i]? = some k) :
    ∃ b o x y, A = some ⟨b, o, none⟩ ∧ b < w.heap.size ∧ w.cell? ⟨b, o + i * 5, none⟩ = some (.bool k.u) ∧ w.cell? ⟨b, o + i * 5 + 1, none⟩ = some (.bool k.r) ∧ w.cell? ⟨b, o + i * 5 + 2, none⟩ = some (.int .i64 k.g) ∧ w.cell? ⟨b, o + i * 5 + 3, none⟩ = some x ∧ w.cell? ⟨b, o + i * 5 + 4, none⟩ = some y ∧
      RdR w lo hi 1 x (intR k.f) ∧ Rd w lo hi y k.d := by
  obtain ⟨b, o, r, hA, hb, hc, x, y, rfl, hx, hy⟩ := h.spot hk
  exact ⟨b, o, x, y, hA, hb, hc 0 _ (by omega) rfl, hc 1 _ (by omega) rfl, hc 2 _ (by omega) rfl, hc 3 _ (by omega) rfl, hc 4 _ (by omega) rfl, hx, hy⟩
theorem rm_cells {w : World} {lo hi n c i : Nat} {A : Option Addr} {K : List Rm} {k : Rm} (h : RdG 4 rmS w lo hi (.slice A n c) K) (hk : K[i]? = some k) :
    ∃ b o x, A = some ⟨b, o, none⟩ ∧ b < w.heap.size ∧ w.cell? ⟨b, o + i * 4, none⟩ = some (.bool k.l) ∧ w.cell? ⟨b, o + i * 4 + 1, none⟩ = some (.int .i64 k.t) ∧ w.cell? ⟨b, o + i * 4 + 2, none⟩ = some (.int .i64 k.b) ∧ w.cell? ⟨b, o + i * 4 + 3, none⟩ = some x ∧
      RdG 5 thS w lo hi x k.T := by
  obtain ⟨b, o, r, hA, hb, hc, x, rfl, hx⟩ := h.spot hk
  exact ⟨b, o, x, hA, hb, hc 0 _ (by omega) rfl, hc 1 _ (by omega) rfl, hc 2 _ (by omega) rfl, hc 3 _ (by omega) rfl, hx⟩

theorem blk5 {w : World} {g : Nat} {a b c d e : Value} {t : TypeId} (h : Blk w g #[a, b, c, d, e] t) :
    (w.cell? ⟨g, 0, none⟩ = some a ∧ w.cell? ⟨g, 1, none⟩ = some b ∧ w.cell? ⟨g, 2, none⟩ = some c ∧ w.cell? ⟨g, 3, none⟩ = some d ∧ w.cell? ⟨g, 4, none⟩ = some e) ∧ w.frozen? ⟨g, 0, none⟩ = false ∧ w.frozen? ⟨g, 1, none⟩ = false ∧ w.frozen? ⟨g, 2, none⟩ = false ∧ w.frozen? ⟨g, 3, none⟩ = false ∧ w.frozen? ⟨g, 4, none⟩ = false :=
  ⟨⟨h.cell 0, h.cell 1, h.cell 2, h.cell 3, h.cell 4⟩, h.free 0, h.free 1, h.free 2, h.free 3, h.free 4⟩
end Go.Proofs.Ytmipkngikimjgaa.Mods
