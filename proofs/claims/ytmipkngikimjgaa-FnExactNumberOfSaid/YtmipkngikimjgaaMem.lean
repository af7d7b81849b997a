/-
  Words for slices of bytes in memory: a slice that reads as a list, a row of the call's own, what has turned. No condition.
-/
import Derived.WalkKit
import Derived.WalkLawsBesides
import Derived.Laws.CopyOwn
namespace Go.Proofs.Ytmipkngikimjgaa.Mem
open Go.RowKit
set_option linter.unusedVariables false

/-- Only the blocks from lo to below hi, and new ones, have turned. -/
structure OnlyIn (lo hi : Nat) (w w' : World) : Prop where
  os : w'.os = w.os
  tape : w'.tape = w.tape
  output : w'.output = w.output
  size : w.heap.size ≤ w'.heap.size
  block : ∀ k, k < w.heap.size → ¬ (lo ≤ k ∧ k < hi) → w'.heap[k]? = w.heap[k]?

theorem OnlyIn.refl (lo hi : Nat) (w : World) : OnlyIn lo hi w w := ⟨rfl, rfl, rfl, Nat.le_refl _, fun _ _ _ => rfl⟩
theorem OnlyIn.trans {lo hi : Nat} {a b c : World} (h : OnlyIn lo hi a b) (k : OnlyIn lo hi b c) : OnlyIn lo hi a c :=
  ⟨k.os.trans h.os, k.tape.trans h.tape, k.output.trans h.output, Nat.le_trans h.size k.size,
    fun i hi hn => (k.block i (Nat.lt_of_lt_of_le hi h.size) hn).trans (h.block i hi hn)⟩
theorem OnlyIn.of_below {lo hi : Nat} {w w' : World} (h : Below w.heap.size w w') : OnlyIn lo hi w w' :=
  ⟨h.os, h.tape, h.output, h.size, fun k hk _ => h.block k hk⟩
theorem OnlyIn.below {lo hi B : Nat} {w w' : World} (h : OnlyIn lo hi w w') (hB : B ≤ lo) (hs : B ≤ w.heap.size) : Below B w w' :=
  ⟨h.os, h.tape, h.output, h.size, fun k hk => h.block k (by omega) (by omega)⟩
theorem below_touch {lo hi B : Nat} {w0 w w' : World} (hb : Below B w0 w) (h : OnlyIn lo hi w w') (hB : B ≤ lo) (hs : B ≤ w0.heap.size) : Below B w0 w' :=
  hb.trans (h.below hB (Nat.le_trans hs hb.size))
theorem below_then {B : Nat} {w0 w w' : World} (hb : Below B w0 w) (h : Below w.heap.size w w') (hs : B ≤ w0.heap.size) : Below B w0 w' :=
  hb.trans (h.mono (Nat.le_trans hs hb.size))
theorem below_drewN (w : World) (n : Nat) : Below w.heap.size w (w.drewN n) := ⟨rfl, rfl, rfl, Nat.le_refl _, fun _ _ => rfl⟩
theorem drawn {B n : Nat} {w0 w : World} (h : Below B w0 w) : Below B w0 (w.drewN n) := ⟨h.os, h.tape, h.output, h.size, h.block⟩
theorem below_drew (w : World) : Below w.heap.size w w.drew := ⟨rfl, rfl, rfl, Nat.le_refl _, fun _ _ => rfl⟩

/-- The slice v reads as the bytes L; its cells lie in the blocks from lo to below hi. -/
def Rd (w : World) (lo hi : Nat) (v : Value) (L : List Int) : Prop :=
  ∃ A c, v = .slice A L.length c ∧ L.length ≤ c ∧ c ≤ maxLen ∧
    ∀ k, k < L.length → ∃ b o, A = some ⟨b, o, none⟩ ∧ lo ≤ b ∧ b < hi ∧ b < w.heap.size ∧ w.cell? ⟨b, o + k, none⟩ = some (.int .u8 (L.getD k 0))

/-- The slice v is nil and L is empty, or v stands at the head of a row of the call's own that begins with the bytes L. -/
def Own (w : World) (lo hi : Nat) (v : Value) (L : List Int) : Prop :=
  (v = .slice none 0 0 ∧ L = []) ∨
  ∃ g cap cur, v = .slice (some ⟨g, 0, none⟩) L.length cap ∧ lo ≤ g ∧ g < hi ∧ w.heap[g]? = some (.cells cur 5 (0, 0)) ∧
    L.length ≤ cap ∧ cap ≤ maxLen ∧ cur.size = cap ∧ cur.toList.take L.length = L.map (Value.int .u8)

section
variable {w w' : World} {lo hi lo' hi' : Nat} {v : Value} {L : List Int}

theorem Rd.touch (h : Rd w lo hi v L) (ht : OnlyIn lo' hi' w w') (hd : hi ≤ lo' ∨ hi' ≤ lo) : Rd w' lo hi v L := by
  obtain ⟨A, c, hv, hc, hm, hk⟩ := h
  refine ⟨A, c, hv, hc, hm, fun k hkl => ?_⟩
  obtain ⟨b, o, hA, h1, h2, h3, h4⟩ := hk k hkl
  exact ⟨b, o, hA, h1, h2, Nat.lt_of_lt_of_le h3 ht.size, (World.cell?_of_block (ht.block b h3 (by omega))).trans h4⟩
theorem Rd.below (h : Rd w lo hi v L) (hb : Below w.heap.size w w') : Rd w' lo hi v L := h.touch (lo' := hi) (hi' := hi) (OnlyIn.of_below hb) (.inl (Nat.le_refl _))
theorem Rd.below' {B : Nat} (h : Rd w lo hi v L) (hb : Below B w w') (hB : hi ≤ B) : Rd w' lo hi v L := by
  obtain ⟨A, c, hv, hc, hm, hk⟩ := h
  refine ⟨A, c, hv, hc, hm, fun k hkl => ?_⟩
  obtain ⟨b, o, hA, h1, h2, h3, h4⟩ := hk k hkl
  exact ⟨b, o, hA, h1, h2, Nat.lt_of_lt_of_le h3 hb.size, (hb.cell (p := ⟨b, o + k, none⟩) (by show b < B; omega)).trans h4⟩
theorem Rd.more (h : Rd w lo hi v L) (h1 : lo' ≤ lo) (h2 : hi ≤ hi') : Rd w lo' hi' v L := by
  obtain ⟨A, c, hv, hc, hm, hk⟩ := h
  refine ⟨A, c, hv, hc, hm, fun k hkl => ?_⟩
  obtain ⟨b, o, hA, h3, h4, h5⟩ := hk k hkl
  exact ⟨b, o, hA, by omega, by omega, h5⟩
theorem Rd.spot {A : Option Addr} {n c : Nat} (h : Rd w lo hi (.slice A n c) L) {k : Nat} (hk : k < L.length) :
    ∃ b o, A = some ⟨b, o, none⟩ ∧ lo ≤ b ∧ b < hi ∧ w.cell? ⟨b, o + k, none⟩ = some (.int .u8 (L.getD k 0)) := by
  obtain ⟨A', c', hv, hc, hm, hcell⟩ := h
  injection hv with hv1 hv2 hv3
  obtain ⟨b, o, hA, h1, h2, _, h3⟩ := hcell k hk
  exact ⟨b, o, hv1.trans hA, h1, h2, h3⟩
theorem Rd.head (h : Rd w lo hi v L) (h0 : 0 < L.length) :
    ∃ b o c, v = .slice (some ⟨b, o, none⟩) L.length c ∧ L.length ≤ c ∧ c ≤ maxLen ∧ lo ≤ b ∧ b < hi ∧ b < w.heap.size ∧ ∀ k, k < L.length → w.cell? ⟨b, o + k, none⟩ = some (.int .u8 (L.getD k 0)) := by
  obtain ⟨A, c, hv, hc, hm, hcell⟩ := h
  obtain ⟨b, o, hA, h1, h2, h3, _⟩ := hcell 0 h0
  subst hA
  refine ⟨b, o, c, hv, hc, hm, h1, h2, h3, fun k hk => ?_⟩
  obtain ⟨b', o', hA, _, _, _, h4⟩ := hcell k hk
  injection hA with hA
  injection hA with e1 e2
  subst e1 e2
  exact h4
theorem Rd.conv {P : Program} (h : Rd w lo hi v L) (src e dst : TypeId) (hs : P.underlying src = some (.slice e)) (he : P.underlying e = some (.int .u8)) (hd : P.underlying dst = some .string) :
    (convert src dst v).run P w = .ok (.string (strOfNums L)) w := by
  obtain ⟨A, c, rfl, hc, hm, hcell⟩ := h
  rcases Nat.eq_zero_or_pos L.length with h0 | h0
  · obtain rfl := List.eq_nil_of_length_eq_zero h0
    rcases A with _ | a
    · exact run_convert_bytes_nil w src e hs he _ _ dst hd
    · have hl : (loadCells a 0).run P w = .ok (([] : List Int).map (Value.int .u8)).toArray w := by
        have := run_loadCells_list (P := P) w a [] (fun j v hj => by simp at hj)
        simpa using this
      rw [run_convert_bytes_string w src dst e _ _ _ hs he hd]
      rw [List.length_nil, run_bytesToString w a _ _ [] hl, foldl_push_bytes]
      rfl
  · obtain ⟨b, o, rfl, _⟩ := hcell 0 h0
    refine run_convert_bytes_arg w src e hs he b o _ c L rfl (fun i hi => ?_) dst hd
    obtain ⟨b', o', hA, _, _, _, h3⟩ := hcell i hi
    injection hA with hA
    injection hA with h1 h2
    subst h1 h2
    exact h3
theorem Rd.len (h : Rd w lo hi v L) : L.length ≤ maxLen := by
  obtain ⟨A, c, hv, hc, hm, hk⟩ := h
  omega

theorem Own.touch (h : Own w lo hi v L) (ht : OnlyIn lo' hi' w w') (hd : hi ≤ lo' ∨ hi' ≤ lo) : Own w' lo hi v L := by
  rcases h with h | ⟨g, cap, cur, hv, h1, h2, h3, h4⟩
  · exact .inl h
  · refine .inr ⟨g, cap, cur, hv, h1, h2, ?_, h4⟩
    rw [ht.block g (Array.getElem?_eq_some_iff.1 h3).1 (by omega)]
    exact h3
theorem Own.below (h : Own w lo hi v L) (hb : Below w.heap.size w w') : Own w' lo hi v L := h.touch (lo' := hi) (hi' := hi) (OnlyIn.of_below hb) (.inl (Nat.le_refl _))
theorem Own.more (h : Own w lo hi v L) (h1 : lo' ≤ lo) (h2 : hi ≤ hi') : Own w lo' hi' v L := by
  rcases h with h | ⟨g, cap, cur, hv, h3, h4, h5⟩
  · exact .inl h
  · exact .inr ⟨g, cap, cur, hv, by omega, by omega, h5⟩
theorem getD_map_u8 {cur : Array Value} (ht : cur.toList.take L.length = L.map (Value.int .u8)) {k : Nat} (hk : k < L.length) : cur[k]? = some (.int .u8 (L.getD k 0)) := by
  have h1 : (cur.toList.take L.length)[k]? = cur[k]? := by rw [List.getElem?_take, if_pos hk]; simp
  rw [← h1, ht, List.getElem?_map, List.getElem?_eq_getElem hk]
  simp [List.getD, List.getElem?_eq_getElem hk]
theorem Own.rd (h : Own w lo hi v L) : Rd w lo hi v L := by
  rcases h with ⟨rfl, rfl⟩ | ⟨g, cap, cur, rfl, h1, h2, h3, h4, h5, h6, h7⟩
  · exact ⟨none, 0, rfl, Nat.le_refl _, Nat.zero_le _, fun k hk => absurd hk (by simp)⟩
  · refine ⟨_, cap, rfl, h4, h5, fun k hk => ⟨g, 0, rfl, h1, h2, (Array.getElem?_eq_some_iff.1 h3).1, ?_⟩⟩
    rw [cell_of_row w g (0 + k) cur 5 (0, 0) h3, Nat.zero_add]
    exact getD_map_u8 h7 hk

/-- What a write into the row of one's own does, and what it asks. -/
theorem Own.put {A : Option Addr} {n c : Nat} (h : Own w lo hi (.slice A n c) L) {k : Nat} (hk : k < L.length) :
    ∃ g, A = some ⟨g, 0, none⟩ ∧ lo ≤ g ∧ g < hi ∧ w.cell? ⟨g, k, none⟩ = some (.int .u8 (L.getD k 0)) ∧ w.frozen? ⟨g, k, none⟩ = false ∧
      ∀ x, Own (w.setCell ⟨g, k, none⟩ (.int .u8 x)) lo hi (.slice A n c) (L.set k x) ∧ OnlyIn lo hi w (w.setCell ⟨g, k, none⟩ (.int .u8 x)) := by
  rcases h with ⟨h0, rfl⟩ | ⟨g, cap, cur, hv, h1, h2, h3, h4, h5, h6, h7⟩
  · exact absurd hk (by simp)
  · injection hv with hA hn hc
    subst hA hn hc
    refine ⟨g, rfl, h1, h2, ?_, ?_, fun x => ⟨?_, rfl, rfl, rfl, by simp, fun i hi hn => Below.heap_setCell w _ _ i ?_⟩⟩
    · rw [cell_of_row w g k cur 5 (0, 0) h3]
      exact getD_map_u8 h7 hk
    · simp [World.frozen?, h3]
    · refine .inr ⟨g, c, cur.setIfInBounds k (.int .u8 x), by simp, h1, h2, ?_, by simpa using h4, h5, by simpa using h6, ?_⟩
      · simp [World.setCell, Array.getElem?_modify, h3]
      · rw [List.length_set, Array.toList_setIfInBounds, List.map_set, List.take_set, h7]
    · show i ≠ g
      omega

theorem own_of_row {base n : Nat} {xs : List Value} (h : w.ownsRow base 5 1 v n xs) (hn : n = L.length) (hx : xs = L.map (Value.int .u8)) : Own w base w.heap.size v L := by
  subst hn hx
  rcases h.2 with ⟨rfl, h0⟩ | ⟨g, cap, cur, rfl, h1, h2, h3, h4, h5, h6⟩
  · exact .inl ⟨rfl, List.eq_nil_of_length_eq_zero h0⟩
  · exact .inr ⟨g, cap, cur, rfl, h1, (Array.getElem?_eq_some_iff.1 h2).1, h2, h3, h4, by simpa using h5, by simpa using h6⟩
theorem row_of_own (h : Own w lo hi v L) : w.ownsRow lo 5 1 v L.length (L.map (Value.int .u8)) := by
  refine ⟨by simp, ?_⟩
  rcases h with ⟨rfl, rfl⟩ | ⟨g, cap, cur, rfl, h1, h2, h3, h4, h5, h6, h7⟩
  · exact .inl ⟨rfl, rfl⟩
  · exact .inr ⟨g, cap, cur, rfl, h1, h3, h4, h5, by simpa using h6, by simpa using h7⟩
end

/-- At block g lie the cells cs, and may be written. -/
def Blk (w : World) (g : Nat) (cs : Array Value) (t : TypeId) : Prop := w.heap[g]? = some (.cells cs t (0, 0))
theorem Blk.new (w : World) (cs : Array Value) (t : TypeId) : Blk (w.alloc (.cells cs t)) w.heap.size cs t := heap_alloc_new w _
theorem Blk.lt {w : World} {g : Nat} {cs : Array Value} {t : TypeId} (h : Blk w g cs t) : g < w.heap.size := (Array.getElem?_eq_some_iff.1 h).1
theorem Blk.below {w w' : World} {g : Nat} {cs : Array Value} {t : TypeId} (h : Blk w g cs t) (hb : Below w.heap.size w w') : Blk w' g cs t := (hb.block g h.lt).trans h
theorem Blk.touch {w w' : World} {g lo hi : Nat} {cs : Array Value} {t : TypeId} (h : Blk w g cs t) (ht : OnlyIn lo hi w w') (hd : g < lo ∨ hi ≤ g) : Blk w' g cs t := (ht.block g h.lt (by omega)).trans h
theorem Blk.more {w : World} {g : Nat} {cs : Array Value} {t : TypeId} (h : Blk w g cs t) (o : Obj) : Blk (w.alloc o) g cs t := h.below ((Below.refl _ _).alloc (Nat.le_refl _) _)
theorem Blk.cell {w : World} {g : Nat} {cs : Array Value} {t : TypeId} (h : Blk w g cs t) (k : Nat) : w.cell? ⟨g, k, none⟩ = cs[k]? := cell_of_row w g k _ _ _ h
theorem Blk.free {w : World} {g : Nat} {cs : Array Value} {t : TypeId} (h : Blk w g cs t) (k : Nat) : w.frozen? ⟨g, k, none⟩ = false := by
  unfold World.frozen?
  rw [h]
  simp
theorem Blk.cells4 {w : World} {g : Nat} {a b c d : Value} {t : TypeId} (h : Blk w g #[a, b, c, d] t) :
    w.cell? ⟨g, 0, none⟩ = some a ∧ w.cell? ⟨g, 1, none⟩ = some b ∧ w.cell? ⟨g, 2, none⟩ = some c ∧ w.cell? ⟨g, 3, none⟩ = some d :=
  ⟨h.cell 0, h.cell 1, h.cell 2, h.cell 3⟩

/-- It hands back a new row of the bytes L, and nothing that was there has turned. -/
def RetB (w : World) (L : List Int) (e : Ending) (w' : World) : Prop :=
  ∃ v, e = .returned v ∧ Own w' w.heap.size w'.heap.size v L ∧ Below w.heap.size w w'
/-- .. and a bool. -/
def RetBB (w : World) (L : List Int) (b : Bool) (e : Ending) (w' : World) : Prop :=
  ∃ v, e = .returned (.tuple #[v, .bool b]) ∧ Own w' w.heap.size w'.heap.size v L ∧ Below w.heap.size w w'
/-- It hands back the row that it was given, which now begins with L; only the blocks from lo to below hi, and new ones, have turned. -/
def RetS (w : World) (lo hi : Nat) (v : Value) (L : List Int) (e : Ending) (w' : World) : Prop :=
  e = .returned v ∧ Own w' lo hi v L ∧ OnlyIn lo hi w w'
/-- It hands back a value; nothing that was there has turned. -/
def RetV (w : World) (v : Value) (e : Ending) (w' : World) : Prop := e = .returned v ∧ Below w.heap.size w w'

/-! ### lists -/
theorem fill_step (L : List Int) (k : Nat) (hk : k < L.length) (z : Int) :
    (L.take k ++ List.replicate (L.length - k) z).set k (L.getD k 0) = L.take (k + 1) ++ List.replicate (L.length - (k + 1)) z := by
  have e1 : (L.take k).length = k := by rw [List.length_take]; omega
  have e2 : L.length - k = (L.length - (k + 1)) + 1 := by omega
  have e3 : L.getD k 0 = L[k] := by rw [List.getD_eq_getElem?_getD, List.getElem?_eq_getElem hk]; rfl
  rw [List.set_append_right _ _ (by omega), e1, Nat.sub_self, e2, List.replicate_succ, List.set_cons_zero, e3, List.take_succ_eq_append_getElem hk, List.append_assoc]
  rfl

/-- The numbers from k on, as bytes. -/
def marks (k n : Nat) : List Int := (List.range n).map fun i => ((k + i : Nat) : Int) % 256
theorem marks_length (k n : Nat) : (marks k n).length = n := by simp [marks]
theorem marks_getD (k n i : Nat) (h : i < n) : (marks k n).getD i 0 = ((k + i : Nat) : Int) % 256 := by
  simp [marks, List.getD, h]
theorem mark_step (L : List Int) (k i : Nat) (hi : i < L.length) :
    (marks k i ++ L.drop i).set i (((k + i : Nat) : Int) % 256) = marks k (i + 1) ++ L.drop (i + 1) := by
  rw [List.set_append_right _ _ (by simp [marks_length]), marks_length, Nat.sub_self]
  rw [List.drop_eq_getElem_cons hi, List.set_cons_zero]
  simp [marks, List.range_succ]

/-- Each number is a byte. -/
def Byt (L : List Int) : Prop := ∀ x ∈ L, 0 ≤ x ∧ x ≤ 255
theorem strOfNums_inj {LA LB : List Int} (hA : Byt LA) (hB : Byt LB) (h : strOfNums LA = strOfNums LB) : LA = LB := by
  have h1 : (LA.map fun n => UInt8.ofNat n.toNat) = LB.map fun n => UInt8.ofNat n.toNat := by
    rw [← strOfNums_data, ← strOfNums_data, h]
  clear h
  induction LA generalizing LB with
  | nil => cases LB with
    | nil => rfl
    | cons b LB => simp at h1
  | cons a LA ih => cases LB with
    | nil => simp at h1
    | cons b LB =>
      rw [List.map_cons, List.map_cons] at h1
      injection h1 with h2 h3
      have ha := hA a (by simp)
      have hb := hB b (by simp)
      have h4 : a.toNat % 256 = b.toNat % 256 := by
        have := congrArg UInt8.toNat h2
        simpa using this
      rw [ih (fun x hx => hA x (by simp [hx])) (fun x hx => hB x (by simp [hx])) h3, show a = b by omega]
theorem strOfNums_beq {LA LB : List Int} (hA : Byt LA) (hB : Byt LB) : decide (strOfNums LA = strOfNums LB) = decide (LA = LB) := by
  by_cases h : LA = LB
  · simp [h]
  · rw [decide_eq_false h, decide_eq_false (fun e => h (strOfNums_inj hA hB e))]
end Go.Proofs.Ytmipkngikimjgaa.Mem
