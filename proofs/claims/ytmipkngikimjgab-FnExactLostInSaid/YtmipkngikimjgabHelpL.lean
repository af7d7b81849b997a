/-
  The laws' own helpers on webs: markKnotS turns nothing but the web. At most 1048576 in all.
-/
import Derived.Test.YtmipkngikimjgabHelpK
namespace Go.Proofs.Ytmipkngikimjgab.HelpL
open Go.RowKit Go.Proofs.Ytmipkngikimjgab.Mem Go.Proofs.Ytmipkngikimjgab.Pure Go.Proofs.Ytmipkngikimjgab.Help Go.Proofs.Ytmipkngikimjgab.Seq Go.Proofs.Ytmipkngikimjgab.Ints Go.Proofs.Ytmipkngikimjgab.Webs Go.Proofs.Ytmipkngikimjgab.HelpK
set_option linter.unusedVariables false

/-- A row of one's own lies in one block. -/
theorem narrow {w : World} {lo hi sz : Nat} {t : TypeId} {v : Value} {R : List (List Value)} (h : OwnR w lo hi t sz v R) :
    ∃ a b, OwnR w a b t sz v R ∧ ∀ q, ¬ (a ≤ q ∧ q < b) ∨ v.ownBlock = some q := by
  obtain ⟨h0, hh⟩ := h
  rcases hh with ⟨rfl, rfl⟩ | ⟨g, cap, cur, rfl, h1, h2, h3, h4, h5, h6, h7⟩
  · exact ⟨0, 0, ⟨h0, .inl ⟨rfl, rfl⟩⟩, fun q => .inl (by omega)⟩
  · refine ⟨g, g + 1, ⟨h0, .inr ⟨g, cap, cur, rfl, Nat.le_refl _, by omega, h3, h4, h5, h6, h7⟩⟩, fun q => ?_⟩
    by_cases hq : q = g
    · right; rw [hq]; rfl
    · left; omega

/-- One flag of a knot is written. -/
theorem flag {w : World} {lo hi g n c i j q : Nat} {K : List Kn} {k0 k : Kn} {u : Value} (h : OwnK w lo hi (.slice (some ⟨g, 0, none⟩) n c) K) (hk : K[i]? = some k0) (hj : j < 3) (hf : k.f = k0.f) (hv : ∀ x : Value, [Value.bool k0.t, .bool k0.r, x].set j u = [Value.bool k.t, .bool k.r, x]) (hq : q = i * 3 + j) :
    OwnK (w.setCell ⟨g, q, none⟩ u) lo hi (.slice (some ⟨g, 0, none⟩) n c) (K.set i k) ∧ OnlyIn lo hi w (w.setCell ⟨g, q, none⟩ u) := by
  subst hq
  obtain ⟨V, h1, h2, h3, h4, h5⟩ := h
  have hik : i < K.length := (List.getElem?_eq_some_iff.1 hk).1
  have hV : V[i]? = some (V[i]'(by omega)) := List.getElem?_eq_getElem (by omega)
  obtain ⟨g', hA, _, _, _, hput⟩ := h2.put (knR_get hk hV)
  injection hA with hA
  injection hA with hA
  subst hA
  obtain ⟨_, _, hs⟩ := hput j hj
  obtain ⟨p1, p2⟩ := hs u
  rw [hv, knR_set] at p1
  have e1 : V.set i (V[i]'(by omega)) = V := by
    apply List.ext_getElem?
    intro a
    rw [List.getElem?_set]
    split
    · subst i
      rw [if_pos (by omega), hV]
    · rfl
  rw [e1] at p1
  refine ⟨⟨V, by simp [h1], p1, fun a k' x hk' hx => ?_, h4, h5⟩, p2⟩
  have hkept : ∀ f', OwnR w lo hi 2 1 x (intR f') → OwnR (w.setCell ⟨g, i * 3 + j, none⟩ u) lo hi 2 1 x (intR f') := fun f' ho =>
    ho.kept (fun q hq => Below.heap_setCell w _ _ q (by
      show q ≠ g
      intro e
      exact h4 a x q hx hq (by rw [e]; rfl)))
  rw [List.getElem?_set] at hk'
  by_cases hja : i = a
  · subst hja
    rw [if_pos rfl, if_pos hik] at hk'
    injection hk' with hk'
    rw [← hk', hf]
    exact hkept _ (h3 i k0 x hk hx)
  · rw [if_neg hja] at hk'
    exact hkept _ (h3 a k' x hk' hx)

/-- One knot of one's own: its cells, its references, and that another content of these lies in the web. -/
theorem own_spot {w : World} {lo hi n c i : Nat} {A : Option Addr} {K : List Kn} {k : Kn} (h : OwnK w lo hi (.slice A n c) K) (hk : K[i]? = some k) :
    ∃ g x, A = some ⟨g, 0, none⟩ ∧ lo ≤ g ∧ g < hi ∧ g < w.heap.size ∧ (w.cell? ⟨g, i * 3, none⟩ = some (.bool k.t) ∧ w.cell? ⟨g, i * 3 + 1, none⟩ = some (.bool k.r) ∧ w.cell? ⟨g, i * 3 + 2, none⟩ = some x) ∧ (w.frozen? ⟨g, i * 3, none⟩ = false ∧ w.frozen? ⟨g, i * 3 + 1, none⟩ = false) ∧
      OwnR w lo hi 2 1 x (intR k.f) ∧ ∀ (w' : World) (L : List Int) (a b : Nat), OwnR w' a b 2 1 x (intR L) → OnlyIn a b w w' → (∀ q, ¬ (a ≤ q ∧ q < b) ∨ x.ownBlock = some q) → OwnK w' lo hi (.slice A n c) (K.set i ⟨k.t, k.r, L⟩) ∧ OnlyIn lo hi w w' := by
  obtain ⟨V, h1, h2, h3, h4, h5⟩ := h
  have hik : i < K.length := (List.getElem?_eq_some_iff.1 hk).1
  have hV : V[i]? = some (V[i]'(by omega)) := List.getElem?_eq_getElem (by omega)
  obtain ⟨g, hA, g1, g2, g3, hput⟩ := h2.put (knR_get hk hV)
  subst hA
  obtain ⟨f0, ⟨u0, a0, d0⟩, _⟩ := hput 0 (by omega)
  obtain ⟨f1, ⟨u1, a1, d1⟩, _⟩ := hput 1 (by omega)
  obtain ⟨f2, ⟨u2, a2, d2⟩, _⟩ := hput 2 (by omega)
  rw [Nat.add_zero] at f0 d0
  simp at a0 a1 a2
  subst a0 a1 a2
  refine ⟨g, V[i]'(by omega), rfl, g1, g2, g3, ⟨d0, d1, d2⟩, ⟨f0, f1⟩, h3 i k _ hk hV, fun w' L a b ho ht hab => ?_⟩
  have hblk : ∀ q, q < w.heap.size → (V[i]'(by omega)).ownBlock ≠ some q → w'.heap[q]? = w.heap[q]? := fun q hq hne => ht.block q hq (by
    rcases hab q with h9 | h9
    · exact h9
    · exact absurd h9 hne)
  have hx : ∀ q, (V[i]'(by omega)).ownBlock = some q → lo ≤ q ∧ q < hi := fun q hq => ⟨((h3 i k _ hk hV).blk hq).1, ((h3 i k _ hk hV).blk hq).2.1⟩
  refine ⟨⟨V, by simp [h1], ?_, fun j k' x hk' hx' => ?_, h4, h5⟩, ⟨ht.os, ht.tape, ht.output, ht.size, fun q hq hn => hblk q hq (fun e => hn (hx q e))⟩⟩
  · have e1 : knR (K.set i ⟨k.t, k.r, L⟩) V = knR K V := by
      have e2 : V.set i (V[i]'(by omega)) = V := by
        apply List.ext_getElem?
        intro a
        rw [List.getElem?_set]
        split
        · subst i
          rw [if_pos (by omega), hV]
        · rfl
      have e3 := knR_set (K := K) (V := V) i ⟨k.t, k.r, L⟩ (V[i]'(by omega))
      rw [e2] at e3
      rw [← e3]
      apply List.ext_getElem?
      intro a
      rw [List.getElem?_set]
      split
      · subst i
        rw [knR_get hk hV, if_pos (by rw [knR_length h1]; exact hik)]
      · rfl
    rw [e1]
    refine h2.kept (fun q hq => hblk q (h2.blk hq).2.2.1 (fun e => ?_))
    exact h4 i _ q hV e hq
  · rw [List.getElem?_set] at hk'
    by_cases hj : i = j
    · subst hj
      rw [if_pos rfl, if_pos hik] at hk'
      injection hk' with hk'
      rw [hV] at hx'
      injection hx' with hx'
      rw [← hk', ← hx']
      obtain ⟨q0, qq⟩ := ho
      refine ⟨q0, ?_⟩
      rcases qq with qq | ⟨g', cap, cur, e, q1, q2, q3⟩
      · exact .inl qq
      · have hxg := hx g' (by rw [e]; rfl)
        exact .inr ⟨g', cap, cur, e, hxg.1, hxg.2, q3⟩
    · rw [if_neg hj] at hk'
      refine (h3 j k' x hk' hx').kept (fun q hq => hblk q ((h3 j k' x hk' hx').blk hq).2.2.1 (fun e => ?_))
      exact h5 i j _ x q hj hV hx' e hq

/-- As many references, knot by knot. -/
def Shape (K K' : List Kn) : Prop := K'.map (fun x => x.f.length) = K.map fun x => x.f.length
theorem pre_shape {K K' : List Kn} (h : Shape K K') (k : Nat) : pre K' k = pre K k := by
  unfold pre Shape at *
  rw [List.map_take, List.map_take, h]
theorem shape_len {K K' : List Kn} (h : Shape K K') : K'.length = K.length := by
  have := congrArg List.length h
  simpa using this
theorem shape_set {K K' : List Kn} (h : Shape K K') {i : Nat} {k k' : Kn} (hk : K'[i]? = some k) (hf : k'.f.length = k.f.length) : Shape K (K'.set i k') := by
  unfold Shape at *
  rw [← h, List.map_set]
  apply List.ext_getElem?
  intro j
  rw [List.getElem?_set]
  split
  · subst i
    have hj := (List.getElem?_eq_some_iff.1 hk).1
    rw [if_pos (by simpa using hj), List.getElem?_map, hk, Option.map_some, hf]
  · rfl

set_option maxHeartbeats 2000000 in
theorem markKnotS (w : World) {lo hi : Nat} {v : Value} {K : List Kn} (h : OwnK w lo hi v K) (hK : K.length + tot K ≤ 1048576) :
    Calls Try.prog 24 #[v, .int .i64 1] w (fun e w' => e = .returned (.int .i64 ((1 + 2 * K.length + tot K : Nat) : Int)) ∧ OnlyIn lo hi w w') := by
  have HO := Lib.hid h
  obtain ⟨A, c, rfl, hc, hm⟩ := h.rd.form
  clear h hm
  obtain ⟨n, hn⟩ : ∃ n, n = K.length := ⟨_, rfl⟩
  have HN := Lib.hid hn
  have hnt : n + tot K ≤ 1048576 := by rw [hn]; exact hK
  have HT := Lib.hid hnt
  have hn2 : n ≤ 1048576 := by omega
  rw [← hn] at HO hc ⊢
  clear hn hc hK hnt
  go_enter Try.func24, Try.ntmps24
  go_wp2_with fail
  go_loopw [1, 5] (fun t i wr => ∃ (k m : Nat) (K2 : List Kn), k ≤ n ∧ i = .int .i64 k ∧ t = .int .i64 (m : Int) ∧ m ≤ 4194304 ∧ Hid (m = 1 + 2 * k + pre K k) ∧ Hid (Shape K K2) ∧ Hid (OwnK wr lo hi (.slice A n c) K2) ∧ Hid (OnlyIn lo hi w wr))
    (fun _ i _ => n - (intOf i).toNat)
  case atStart => exact ⟨0, 1, K, Nat.zero_le _, rfl, rfl, by omega, Lib.hid (by rw [pre_zero]), Lib.hid rfl, HO, Lib.hid (OnlyIn.refl _ _ _)⟩
  case round =>
    obtain ⟨k, m, K2, hk, rfl, rfl, hm4, hme, hsh, ho, hb⟩ := hrel
    by_cases hlt : k < n
    · obtain ⟨s, hs⟩ : ∃ s, K2[k]? = some s := ⟨_, List.getElem?_eq_getElem (by have := shape_len hsh.out; have := HN.out; omega)⟩
      have HS := Lib.hid hs
      obtain ⟨g, x, hA, g1, g2, g3, ⟨c0, c1, c2⟩, ⟨f0, f1⟩, hox, hzz⟩ := own_spot ho.out hs
      subst hA
      clear hzz
      obtain ⟨Ax, nx, cx, rfl⟩ := hox.form
      have HPS : Hid (pre K (k + 1) = pre K k + s.f.length) := Lib.hid (by have h1 := pre_shape hsh.out (k + 1); have h2 := pre_shape hsh.out k; have h3 := pre_succ HS.out; omega)
      have HPL := Lib.hid (pre_le K (k + 1))
      have HL : Hid (s.f.length ≤ 1048576) := Lib.hid (by have := HPS.out; have := HPL.out; have := HT.out; omega)
      have HF : Hid (∀ X Y : Bool, OwnK ((wr.setCell ⟨g, k * 3, none⟩ (.bool X)).setCell ⟨g, k * 3 + 1, none⟩ (.bool Y)) lo hi (.slice (some ⟨g, 0, none⟩) n c) ((K2.set k ⟨X, s.r, s.f⟩).set k ⟨X, Y, s.f⟩) ∧ OnlyIn lo hi wr ((wr.setCell ⟨g, k * 3, none⟩ (.bool X)).setCell ⟨g, k * 3 + 1, none⟩ (.bool Y))) := Lib.hid (fun X Y => by
        obtain ⟨p1, p2⟩ := flag (q := k * 3) (j := 0) (k := ⟨X, s.r, s.f⟩) (u := .bool X) ho.out HS.out (by omega) rfl (fun _ => rfl) rfl
        obtain ⟨q1, q2⟩ := flag (q := k * 3 + 1) (j := 1) (k0 := ⟨X, s.r, s.f⟩) (k := ⟨X, Y, s.f⟩) (u := .bool Y) p1 (by rw [List.getElem?_set_self (by exact (List.getElem?_eq_some_iff.1 HS.out).1)]) (by omega) rfl (fun _ => rfl) rfl
        exact ⟨q1, p2.trans q2⟩)
      have HG : Hid (∀ X Y : Bool, ∃ a b, OwnR ((wr.setCell ⟨g, k * 3, none⟩ (.bool X)).setCell ⟨g, k * 3 + 1, none⟩ (.bool Y)) a b 2 1 (.slice Ax nx cx) (intR s.f) ∧ ∀ (w' : World) (L : List Int), OwnR w' a b 2 1 (.slice Ax nx cx) (intR L) → OnlyIn a b ((wr.setCell ⟨g, k * 3, none⟩ (.bool X)).setCell ⟨g, k * 3 + 1, none⟩ (.bool Y)) w' → OwnK w' lo hi (.slice (some ⟨g, 0, none⟩) n c) (((K2.set k ⟨X, s.r, s.f⟩).set k ⟨X, Y, s.f⟩).set k ⟨X, Y, L⟩) ∧ OnlyIn lo hi wr w') := Lib.hid (fun X Y => by
        obtain ⟨p1, p2⟩ := HF.out X Y
        have hgs : ((K2.set k ⟨X, s.r, s.f⟩).set k ⟨X, Y, s.f⟩)[k]? = some ⟨X, Y, s.f⟩ := by
          rw [List.getElem?_set_self (by rw [List.length_set]; exact (List.getElem?_eq_some_iff.1 HS.out).1)]
        obtain ⟨g', x', hA, _, _, _, ⟨_, _, d2⟩, _, ho', hall⟩ := own_spot p1 hgs
        injection hA with hA
        injection hA with hA
        subst hA
        have hcx : x' = .slice Ax nx cx := by
          have e1 : ((wr.setCell ⟨g, k * 3, none⟩ (.bool X)).setCell ⟨g, k * 3 + 1, none⟩ (.bool Y)).cell? ⟨g, k * 3 + 2, none⟩ = wr.cell? ⟨g, k * 3 + 2, none⟩ := by
            exact (World.cell?_setCell_other _ ⟨g, k * 3 + 1, none⟩ ⟨g, k * 3 + 2, none⟩ _ (by simp)).trans (World.cell?_setCell_other _ ⟨g, k * 3, none⟩ ⟨g, k * 3 + 2, none⟩ _ (by simp))
          rw [e1, c2] at d2
          injection d2 with d2
          exact d2.symm
        subst hcx
        obtain ⟨a, b, hn1, hn2⟩ := narrow ho'
        refine ⟨a, b, hn1, fun w' L hw ht => ?_⟩
        obtain ⟨r1, r2⟩ := hall w' L a b hw ht hn2
        exact ⟨r1, p2.trans r2⟩)
      clear hs hox ho HF
      have HMK : Hid (∀ (w2 : World) (a b : Nat), OwnR w2 a b 2 1 (.slice Ax nx cx) (intR s.f) → Calls Try.prog 28 #[.slice Ax nx cx, .int .i64 ((m : Int) + 1 + 1)] w2 (fun e w' => e = .returned (.int .i64 ((m + 2 + s.f.length : Nat) : Int)) ∧ OwnR w' a b 2 1 (.slice Ax nx cx) (intR (marksI (m + 2) s.f.length)) ∧ OnlyIn a b w2 w')) := Lib.hid (fun w2 a b ho => by
        have := markInt64S w2 (s := m + 2) ho HL.out (by omega)
        rwa [show ((m + 2 : Nat) : Int) = (m : Int) + 1 + 1 by omega] at this)
      obtain ⟨m2, hm2⟩ : ∃ m2, m2 = m + 2 + s.f.length := ⟨_, rfl⟩
      have HM2 : Hid (m2 = 1 + 2 * (k + 1) + pre K (k + 1)) := Lib.hid (by have := hme.out; have := HPS.out; omega)
      have hm24 : m2 ≤ 4194304 := by have := HM2.out; have := HPL.out; have := HT.out; omega
      rw [← hm2] at HMK
      clear hm2
      go_wp2_with fail
      obtain ⟨a, b, hn1, hn2⟩ := HG.out ((m : Int) % 3 == 0) (((m : Int) + 1) % 3 == 0)
      refine (HMK.out _ a b hn1).mono ?_
      rintro e w2 ⟨rfl, ho2, ht2⟩
      obtain ⟨r1, r2⟩ := hn2 w2 _ ho2 ht2
      have HR1 := Lib.hid r1
      have HR2 := Lib.hid (hb.out.trans r2)
      have HSH : Hid (Shape K (((K2.set k ⟨(m : Int) % 3 == 0, s.r, s.f⟩).set k ⟨(m : Int) % 3 == 0, ((m : Int) + 1) % 3 == 0, s.f⟩).set k ⟨(m : Int) % 3 == 0, ((m : Int) + 1) % 3 == 0, marksI (m + 2) s.f.length⟩)) := Lib.hid (by
        rw [List.set_set, List.set_set]
        exact shape_set hsh.out HS.out (by rw [marksI_length]))
      clear r1 r2 ho2 ht2 hn1 hn2
      go_wp2
      go_roundw
      case rel => exact ⟨k + 1, m2, _, by omega, by go_num, rfl, hm24, HM2, HSH, HR1, HR2⟩
      case measure => simp [intOf]; omega
    · obtain rfl : k = n := by omega
      have HM : Hid (m = 1 + 2 * K.length + tot K) := Lib.hid (by
        have h1 : pre K k = tot K := by unfold tot; rw [← HN.out]
        have := hme.out
        have := HN.out
        omega)
      go_wp2
      go_ret
      refine ⟨?_, hb.out⟩
      have e1 : ((m : Nat) : Int) = ((1 + 2 * k + tot K : Nat) : Int) := by have := HM.out; have := HN.out; omega
      rw [← e1]
      rfl
end Go.Proofs.Ytmipkngikimjgab.HelpL
