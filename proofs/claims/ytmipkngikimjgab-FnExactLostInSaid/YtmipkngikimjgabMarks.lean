/-
  The program's map of marks in memory: what a block that is such a map says of each slot, what a look-up, a store and a delete do. Webs of at most 16 slots.
-/
import Derived.Test.YtmipkngikimjgabPure6B
import Derived.Test.YtmipkngikimjgabReachT
import Derived.Maps.OwnSet
import Derived.WalkSpells
import Derived.DeepKeys4
namespace Go.Proofs.Ytmipkngikimjgab.Marks
open Go.RowKit Go.Maps Go.Proofs.Ytmipkngikimjgab.Mem Go.Proofs.Ytmipkngikimjgab.Pure Go.Proofs.Ytmipkngikimjgab.Help Go.Proofs.Ytmipkngikimjgab.FloorI Go.Proofs.Ytmipkngikimjgab.Seq Go.Proofs.Ytmipkngikimjgab.Ints Go.Proofs.Ytmipkngikimjgab.Webs
set_option linter.unusedVariables false

theorem laidOut : laidOutB Try.prog = true := by kernel_rfl
theorem rowK : (69 : TypeId) < Try.prog.types.size := of_decide_eq_true (by kernel_rfl)
theorem wideK : (match Try.prog.underlying 69 with | some (.array _ _) | some (.struct _) => true | _ => false) = true := by rw [Try.underlying69]
theorem lawK : Keyed Try.prog 69 := Keyed.of_law (deep_law_laid laidOut (m := 2) (by omega) rowK (by kernel_rfl) wideK)
theorem zeroO (w : World) : (zeroValue 4).run Try.prog w = .ok (.bool false) w := by kernel_rfl
theorem keyT : Try.prog.keyType 69 = true := by kernel_rfl
theorem cellsK : Try.prog.cellsOf 69 = 2 := by kernel_rfl
theorem cellsI : Try.prog.cellsOf 2 = 1 := by kernel_rfl
theorem cellsO : Try.prog.cellsOf 4 = 1 := by kernel_rfl
theorem tsz : ∃ m, Try.prog.types.size = m + 1 := ⟨Try.prog.types.size - 1, by kernel_rfl⟩

/-- What the key of slot x reads as. -/
def kl (x : Int) (f : Bool) : Lit := .string (keyBytes [.int .i64 x, .bool f])
theorem hkey {x : Int} (hx : I64 x) (f : Bool) : keyOf Try.prog 69 (.agg #[.int .i64 x, .bool f]) = some (kl x f) := by
  have hw : (Lit.int .i64 x).wf = true := WalkArith.wf_i64 (by unfold I64 at hx; omega)
  obtain ⟨m, hm⟩ := tsz
  unfold keyOf
  simp only [Try.underlying69]
  rw [if_pos (by simp [keyT, Value.formed, Try.underlying69, cellsK]), hm]
  unfold Program.keyLits
  simp only [Try.underlying69, Value.cells]
  rw [if_pos (by rw [cellsK]; exact ⟨rfl, by simp⟩)]
  simp [List.mapM_cons, List.mapM_nil, Program.keyLits, Try.underlying2, Try.underlying4, cellsI, cellsO, hw, kl]
theorem kl_inj {x y : Int} {f g : Bool} (hx : I64 x) (hy : I64 y) (h : kl x f = kl y g) : x = y ∧ f = g := by
  have h1 := lawK.inj (hkey hx f) (by rw [h]; exact hkey hy g)
  simp at h1
  exact h1

/-- Block b is a map of at most n entries that bears the marks M. -/
structure MO (w : World) (b n : Nat) (M : List Nat) : Prop where
  own : ∃ D : DataW Unit, w.ownsMap Try.prog 69 (plainElem Try.prog 4) b n D ∧ ∀ (x m : Nat) (f : Bool), M[x]? = some m → D.atKey (kl x f) (.lit (.bool false)) = .lit (.bool (decide (m = if f then 1 else 2)))
  le : M.length ≤ 16
theorem MO.i64 {w : World} {b n x m : Nat} {M : List Nat} (h : MO w b n M) (hx : M[x]? = some m) : I64 (x : Int) := by
  have h1 := (List.getElem?_eq_some_iff.1 hx).1
  have h2 := h.le
  unfold I64
  omega
theorem MO.lt {w : World} {b n : Nat} {M : List Nat} (h : MO w b n M) : b < w.heap.size := by
  obtain ⟨D, h1, _⟩ := h.own
  exact h1.lt
theorem MO.kept {w w' : World} {b n : Nat} {row : Option Nat} {M : List Nat} (h : MO w b n M) (hg : w.grownBy w' row) (hne : some b ≠ row) : MO w' b n M := by
  obtain ⟨D, h1, h2⟩ := h.own
  exact ⟨⟨D, h1.kept hg hne, h2⟩, h.le⟩
theorem MO.below {w w' : World} {b n : Nat} {M : List Nat} (h : MO w b n M) (hb : Below w.heap.size w w') : MO w' b n M :=
  h.kept (row := none) ⟨hb.os, hb.tape, hb.output, hb.size, fun k hk _ => hb.block k hk⟩ (by simp)
theorem MO.touch {w w' : World} {b n lo hi : Nat} {M : List Nat} (h : MO w b n M) (ht : OnlyIn lo hi w w') (hd : b < lo ∨ hi ≤ b) : MO w' b n M := by
  have hlt := h.lt
  obtain ⟨D, h1, h2⟩ := h.own
  refine ⟨⟨D, ?_, h2⟩, h.le⟩
  obtain ⟨es, clock, hb, r⟩ := h1
  exact ⟨es, clock, (ht.block b hlt (by omega)).trans hb, r⟩
theorem MO.made (w : World) {n : Nat} (hn : n ≤ 16) : MO (w.alloc (.map #[] 0)) w.heap.size 0 (List.replicate n 0) := by
  refine ⟨⟨.map [], World.ownsMap_made _ _ _ _, fun x m f hx => ?_⟩, by simpa using hn⟩
  have := List.mem_of_getElem? hx
  rw [List.mem_replicate] at this
  obtain ⟨_, rfl⟩ := this
  cases f <;> rfl
theorem plainElem_bool_inv {v : Value} {z : DataW Unit × List MemPlace} (h : plainElem Try.prog 4 v = some z) : ∃ x, v = .bool x ∧ z = (.lit (.bool x), []) := by
  unfold plainElem at h
  rw [Try.underlying4] at h
  cases v <;> simp at h
  exact ⟨_, rfl, h.symm⟩
theorem MO.look {w : World} {b n x m : Nat} {M : List Nat} (h : MO w b n M) (hx : M[x]? = some m) (f : Bool) {r : Bool} (hr : decide (m = if f then 1 else 2) = r) :
    (Instr.lookup 51 (.map (some b)) (.agg #[.int .i64 x, .bool f]) false).run Try.prog w = .ok (.bool r) w := by
  obtain ⟨D, ho, hat⟩ := h.own
  obtain ⟨v, ps, hrun, hv⟩ := ho.lookup lawK Try.underlying51 (zeroO w) (plainElem_bool Try.underlying4 false) (hkey (h.i64 hx) f)
  rw [hat x m f hx] at hv
  obtain ⟨y, rfl, hy⟩ := plainElem_bool_inv hv
  simp only [Prod.mk.injEq, DataW.lit.injEq, Lit.bool.injEq] at hy
  rw [hrun, ← hy.1, hr]
theorem MO.stored {w w1 : World} {b n x : Nat} {M : List Nat} {D : DataW Unit} (h : MO w b n M) (hx : M[x]? = some 0) (hat : ∀ (x m : Nat) (f : Bool), M[x]? = some m → D.atKey (kl x f) (.lit (.bool false)) = .lit (.bool (decide (m = if f then 1 else 2))))
    (hD : IsMap D) (f : Bool) {m' n' : Nat} (hm : m' = if f then 1 else 2) (ho : w1.ownsMap Try.prog 69 (plainElem Try.prog 4) b n' (D.put (kl x f) (.lit (.bool true)))) : MO w1 b n' (M.set x m') := by
  refine ⟨⟨_, ho, fun y m g hy => ?_⟩, by rw [List.length_set]; exact h.le⟩
  have hl := (List.getElem?_eq_some_iff.1 hx).1
  by_cases e : x = y
  · subst e
    rw [List.getElem?_set_self hl] at hy
    injection hy with hy
    by_cases eg : g = f
    · subst eg
      rw [atKey_put_same hD (lawK.key (hkey (h.i64 hx) g)), ← hy, hm]
      simp
    · rw [atKey_put_other (fun e2 => eg (kl_inj (h.i64 hx) (h.i64 hx) e2).2), hat x 0 g hx, ← hy, hm]
      cases f <;> cases g <;> first | exact absurd rfl eg | rfl
  · rw [List.getElem?_set_ne e] at hy
    rw [atKey_put_other (fun e2 => e (by have := (kl_inj (h.i64 hy) (h.i64 hx) e2).1; omega)), hat y m g hy]
theorem MO.dropped {w w1 : World} {b n x : Nat} {M : List Nat} {D : DataW Unit} (h : MO w b n M) (hx : M[x]? = some 1) (hat : ∀ (x m : Nat) (f : Bool), M[x]? = some m → D.atKey (kl x f) (.lit (.bool false)) = .lit (.bool (decide (m = if f then 1 else 2))))
    {n' : Nat} (ho : w1.ownsMap Try.prog 69 (plainElem Try.prog 4) b n' (D.del (kl x true))) : MO w1 b n' (M.set x 0) := by
  refine ⟨⟨_, ho, fun y m g hy => ?_⟩, by rw [List.length_set]; exact h.le⟩
  have hl := (List.getElem?_eq_some_iff.1 hx).1
  by_cases e : x = y
  · subst e
    rw [List.getElem?_set_self hl] at hy
    injection hy with hy
    subst hy
    cases g
    · rw [atKey_del_other (fun e2 => by have := (kl_inj (h.i64 hx) (h.i64 hx) e2).2; cases this), hat x 1 false hx]
      rfl
    · rw [atKey_del_same]
      rfl
  · rw [List.getElem?_set_ne e] at hy
    rw [atKey_del_other (fun e2 => e (by have := (kl_inj (h.i64 hy) (h.i64 hx) e2).1; omega)), hat y m g hy]

/-- What the world says of slot x in the map at block b: for the measure of the round. -/
def markAt (P : Program) (t : TypeId) (w : World) (b x : Nat) : Nat :=
  match (Instr.lookup t (.map (some b)) (.agg #[.int .i64 x, .bool true]) false).run P w, (Instr.lookup t (.map (some b)) (.agg #[.int .i64 x, .bool false]) false).run P w with
  | .ok (.bool true) _, _ => 1
  | _, .ok (.bool true) _ => 2
  | _, _ => 0
def marksAt (P : Program) (t : TypeId) (w : World) (b n : Nat) : List Nat := (List.range n).map (markAt P t w b)
theorem MO.read {w : World} {b k n : Nat} {M : List Nat} (h : MO w b k M) (h3 : Three M) (hn : M.length = n) : marksAt Try.prog 51 w b n = M := by
  apply List.ext_getElem?
  intro i
  unfold marksAt
  rw [List.getElem?_map]
  by_cases hi : i < n
  · obtain ⟨m, hm⟩ : ∃ m, M[i]? = some m := ⟨_, List.getElem?_eq_getElem (by omega)⟩
    rw [List.getElem?_range hi, hm, Option.map_some]
    congr 1
    unfold markAt
    have hm2 := h3 m (List.mem_of_getElem? hm)
    rw [h.look hm true rfl, h.look hm false rfl]
    match m, hm2 with
    | 0, _ => rfl
    | 1, _ => rfl
    | 2, _ => rfl
  · rw [List.getElem?_eq_none (by simp; omega), List.getElem?_eq_none (by omega)]
    rfl
end Go.Proofs.Ytmipkngikimjgab.Marks
