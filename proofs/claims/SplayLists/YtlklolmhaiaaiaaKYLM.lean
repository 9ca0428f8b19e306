import Derived.Test.YtlklolmhaiaaiaaKYP5
import Derived.Test.YtlklolmhaiaaiaaKY37
import Derived.Test.YtlklolmhaiaaiaaKY35
import Derived.Maps.AppendAt
namespace Go.Proofs.Ytlklolmhaiaaiaa
open Go.ChangeShapes Go.WideShapes Go.ChangeAt Go.RowKit
set_option linter.unusedVariables false
set_option linter.unusedSimpArgs false

/-! ### a list that was handed out, written full -/
def mkE (mk : Int) (i : Nat) : Ev := ⟨0, 0, 0, mk, i, 5⟩
def mkM (mk : Int) (n i : Nat) : Ev := if i < n then mkE mk i else ⟨0, 0, 0, mk, -1, 0⟩
def EvP (W : World) (p : Option Addr) (n : Nat) (X : Nat → Ev) : Prop := n = 0 ∨ ∃ b, p = some ⟨b, 0, none⟩ ∧ EvsL W b n X
def NuP (W : World) (p : Option Addr) (n : Nat) (X : Nat → Int) : Prop := n = 0 ∨ ∃ b, p = some ⟨b, 0, none⟩ ∧ b < W.heap.size ∧ ∀ i, i < n → W.cell? ⟨b, i, none⟩ = some (.int .i64 (X i))
def nuM (mk : Int) (n i : Nat) : Int := if i < n then mk + i else -mk
theorem EvP.later {W W' : World} {p : Option Addr} {n : Nat} {X : Nat → Ev} (h : EvP W p n X) (hb : Below W.heap.size W W') : EvP W' p n X := by
  rcases h with h | ⟨b, e, h⟩
  · exact .inl h
  · exact .inr ⟨b, e, h.later hb⟩
theorem NuP.later {W W' : World} {p : Option Addr} {n : Nat} {X : Nat → Int} (h : NuP W p n X) (hb : Below W.heap.size W W') : NuP W' p n X := by
  rcases h with h | ⟨b, e, h1, h2⟩
  · exact .inl h
  · exact .inr ⟨b, e, Nat.lt_of_lt_of_le h1 hb.size, fun i hi => (cell_below (a := ⟨b, i, none⟩) hb h1).trans (h2 i hi)⟩
/-- the struct -/
structure HR (W : World) (hb : Nat) (mk : Int) (nE nD : Nat) (pE pM pD pN : Option Addr) (cE cM cD cN : Nat) : Prop where
  blk : W.heap[hb]? = some (.cells #[.slice pE nE cE, .slice pM (nE + 64) cM, .slice pD nD cD, .slice pN (nD + 64) cN, .int .i64 mk] 52 (0, 0))
  ev : EvP W pE nE (mkE mk)
  mo : EvP W pM (nE + 64) (mkM mk nE)
  dp : NuP W pD nD (fun i => mk + i)
  de : NuP W pN (nD + 64) (nuM mk nD)
  mb : 0 ≤ mk ∧ mk ≤ 7000000000000000000
  nb : nE ≤ 8192 ∧ nD ≤ 8192
theorem HR.later {W W' : World} {hb : Nat} {mk : Int} {nE nD : Nat} {pE pM pD pN : Option Addr} {cE cM cD cN : Nat} (h : HR W hb mk nE nD pE pM pD pN cE cM cD cN) (hB : Below W.heap.size W W') : HR W' hb mk nE nD pE pM pD pN cE cM cD cN := ⟨(hB.block _ (lt_of_block h.blk)).trans h.blk, h.ev.later hB, h.mo.later hB, h.dp.later hB, h.de.later hB, h.mb, h.nb⟩
theorem c5h {W : World} {b : Nat} {c0 c1 c2 c3 c4 : Value} {t : TypeId} (h : W.heap[b]? = some (.cells #[c0, c1, c2, c3, c4] t (0, 0))) : W.cell? ⟨b, 0, none⟩ = some c0 ∧ W.cell? ⟨b, 1, none⟩ = some c1 ∧ W.cell? ⟨b, 2, none⟩ = some c2 ∧ W.cell? ⟨b, 3, none⟩ = some c3 ∧ W.cell? ⟨b, 4, none⟩ = some c4 := by
  refine ⟨?_, ?_, ?_, ?_, ?_⟩
  all_goals (unfold World.cell?; rw [h]; rfl)
set_option maxRecDepth 100000 in
set_option maxHeartbeats 4000000 in
theorem written_any {hb : Nat} {mk : Int} {n : Nat} {pE : Option Addr} {cE : Nat} {v1 v2 v3 : Value} {p : Option Addr} {m c : Nat} (W : World) (h : W.heap[hb]? = some (.cells #[.slice pE n cE, v1, v2, v3, .int .i64 mk] 52 (0, 0))) (he : EvP W p n (mkE mk)) (hn : n ≤ 8192) (hm : n ≤ m) : Calls Try.prog 53 #[.pointer (some ⟨hb, 0, none⟩), .slice p m c] W fun e W' => e = .returned (.bool true) ∧ Below W.heap.size W W' := by
  have H : Hid (W.heap[hb]? = some (.cells #[.slice pE n cE, v1, v2, v3, .int .i64 mk] 52 (0, 0)) ∧ EvP W p n (mkE mk) ∧ n ≤ 8192 ∧ n ≤ m) := ⟨h, he, hn, hm⟩
  obtain ⟨y0, y1, y2, y3, y4⟩ := c5h h
  clear h he hn hm
  go_enter Try.func53, Try.ntmps53
  go_wp2_with fail
  go_loopw [11] (fun x wr => ∃ i : Nat, x = .int .i64 (i : Int) ∧ i ≤ n ∧ Below W.heap.size W wr) (fun x _ => n - (intOf x).toNat)
  case atStart => exact ⟨0, rfl, Nat.zero_le _, Below.refl _ _⟩
  case round =>
    obtain ⟨i, rfl, hin, hbr⟩ := hrel
    obtain ⟨z0, z1, z2, z3, z4⟩ := c5h ((hbr.block _ (lt_of_block H.out.1)).trans H.out.1)
    clear y0 y1 y2 y3 y4
    by_cases hlt : i < n
    · have d1 : decide ((i : Int) < (n : Int)) = true := by simp; omega
      have d2 : decide (i < n) = true := by simp; omega
      have i0 : (0 : Int) ≤ (i : Int) := by omega
      have i1 : (i : Int) < (m : Int) := by have := H.out; omega
      obtain ⟨b, rfl, hX⟩ := H.out.2.1.resolve_left (by omega)
      have hX2 := hX.later hbr
      obtain ⟨x0, x1, x2, x3, x4, x5⟩ := EvsL.at hX2 hlt
      simp only [mkE] at x0 x1 x2 x3 x4 x5
      have ei : IntKind.i64.wrap ((i : Int) + 1) = ((i + 1 : Nat) : Int) := by have := H.out; rw [IntKind.wrap_i64]; omega
      have hm := meas0 hlt
      have HB : Hid (Below W.heap.size W wr) := hbr
      clear hX hX2 hbr z1 z2 z3
      go_wp2_with fail
      go_quiet (fail)
      generalize hw5 : World.drewN wr _ = w5
      have hb5 : Below wr.heap.size wr w5 := by rw [← hw5]; exact below_drewNq _ _ _
      clear hw5
      go_wp2_with fail
      exact ⟨⟨i + 1, rfl, by omega, HB.out.trans (hb5.mono HB.out.size)⟩, hm⟩
    · have d1 : decide ((i : Int) < (n : Int)) = false := by simp; omega
      have d2 : decide (i < n) = false := by simp; omega
      go_wp2_with fail
      go_ret
      exact ⟨rfl, hbr⟩
set_option maxRecDepth 100000 in
set_option maxHeartbeats 4000000 in
theorem sunk_any {hb : Nat} {mk : Int} {n : Nat} {pE : Option Addr} {cE : Nat} {v1 v2 v3 : Value} {p : Option Addr} {m c : Nat} (W : World) (h : W.heap[hb]? = some (.cells #[v1, v2, .slice pE n cE, v3, .int .i64 mk] 52 (0, 0))) (he : NuP W p n (fun i => mk + i)) (hmk : 0 ≤ mk ∧ mk ≤ 7000000000000000000) (hn : n ≤ 8192) (hm : n ≤ m) : Calls Try.prog 54 #[.pointer (some ⟨hb, 0, none⟩), .slice p m c] W fun e W' => e = .returned (.bool true) ∧ Below W.heap.size W W' := by
  have H : Hid (W.heap[hb]? = some (.cells #[v1, v2, .slice pE n cE, v3, .int .i64 mk] 52 (0, 0)) ∧ NuP W p n (fun i => mk + i) ∧ n ≤ 8192 ∧ n ≤ m ∧ 0 ≤ mk ∧ mk ≤ 7000000000000000000) := ⟨h, he, hn, hm, hmk⟩
  obtain ⟨y0, y1, y2, y3, y4⟩ := c5h h
  clear h he hn hm hmk
  go_enter Try.func54, Try.ntmps54
  go_wp2_with fail
  go_loopw [11] (fun x wr => ∃ i : Nat, x = .int .i64 (i : Int) ∧ i ≤ n ∧ Below W.heap.size W wr) (fun x _ => n - (intOf x).toNat)
  case atStart => exact ⟨0, rfl, Nat.zero_le _, Below.refl _ _⟩
  case round =>
    obtain ⟨i, rfl, hin, hbr⟩ := hrel
    obtain ⟨z0, z1, z2, z3, z4⟩ := c5h ((hbr.block _ (lt_of_block H.out.1)).trans H.out.1)
    clear y0 y1 y2 y3 y4
    by_cases hlt : i < n
    · have d1 : decide ((i : Int) < (n : Int)) = true := by simp; omega
      have d2 : decide (i < n) = true := by simp; omega
      have i0 : (0 : Int) ≤ (i : Int) := by omega
      have i1 : (i : Int) < (m : Int) := by have := H.out; omega
      obtain ⟨b, rfl, hX, hX2⟩ := H.out.2.1.resolve_left (by omega)
      have x0 := (cell_below (a := ⟨b, i, none⟩) hbr hX).trans (hX2 i hlt)
      dsimp only at x0
      have em : IntKind.i64.wrap (mk + (i : Int)) = mk + (i : Int) := by have := H.out; rw [IntKind.wrap_i64]; omega
      have ei : IntKind.i64.wrap ((i : Int) + 1) = ((i + 1 : Nat) : Int) := by have := H.out; rw [IntKind.wrap_i64]; omega
      have hm := meas0 hlt
      have HB : Hid (Below W.heap.size W wr) := hbr
      clear hX hX2 hbr z0 z1 z3
      go_wp2_with fail
      go_quiet (fail)
      generalize hw5 : World.drewN wr _ = w5
      have hb5 : Below wr.heap.size wr w5 := by rw [← hw5]; exact below_drewNq _ _ _
      clear hw5
      go_wp2_with fail
      exact ⟨⟨i + 1, rfl, by omega, HB.out.trans (hb5.mono HB.out.size)⟩, hm⟩
    · have d1 : decide ((i : Int) < (n : Int)) = false := by simp; omega
      have d2 : decide (i < n) = false := by simp; omega
      go_wp2_with fail
      go_ret
      exact ⟨rfl, hbr⟩
end Go.Proofs.Ytlklolmhaiaaiaa
namespace Go.Proofs.Ytlklolmhaiaaiaa
open Go.ChangeShapes Go.WideShapes Go.ChangeAt Go.RowKit
set_option linter.unusedVariables false
set_option linter.unusedSimpArgs false

theorem EvP.pre {W : World} {p : Option Addr} {n m : Nat} {X Y : Nat → Ev} (h : EvP W p m X) (hn : n ≤ m) (he : ∀ i, i < n → X i = Y i) : EvP W p n Y := by
  rcases h with h | ⟨b, e, h1, h2⟩
  · exact .inl (by omega)
  · exact .inr ⟨b, e, h1, fun i r hi hr => by rw [← he i hi]; exact h2 i r (by omega) hr⟩
theorem NuP.pre {W : World} {p : Option Addr} {n m : Nat} {X Y : Nat → Int} (h : NuP W p m X) (hn : n ≤ m) (he : ∀ i, i < n → X i = Y i) : NuP W p n Y := by
  rcases h with h | ⟨b, e, h1, h2⟩
  · exact .inl (by omega)
  · exact .inr ⟨b, e, h1, fun i hi => by rw [← he i hi]; exact h2 i (by omega)⟩
set_option maxRecDepth 100000 in
set_option maxHeartbeats 4000000 in
theorem whole_any {hb : Nat} {mk : Int} {nE nD : Nat} {pE pM pD pN : Option Addr} {cE cM cD cN : Nat} (W : World) (h : HR W hb mk nE nD pE pM pD pN cE cM cD cN) : Calls Try.prog 23 #[.pointer (some ⟨hb, 0, none⟩)] W fun e W' => e = .returned (.bool true) ∧ Below W.heap.size W W' := by
  have hBk := h.blk
  have HE := written_any (p := pE) (m := nE) (c := cE) W h.blk h.ev h.nb.1 (Nat.le_refl _)
  have HM : Hid (∀ w, Below W.heap.size W w → Calls Try.prog 53 #[.pointer (some ⟨hb, 0, none⟩), .slice pM (nE + 64) cM] w fun e W' => e = .returned (.bool true) ∧ Below w.heap.size w W') := fun w hw => written_any w ((h.later hw).blk) ((h.later hw).mo.pre (by omega) (fun i hi => if_pos hi)) h.nb.1 (by omega)
  have HD : Hid (∀ w, Below W.heap.size W w → Calls Try.prog 54 #[.pointer (some ⟨hb, 0, none⟩), .slice pD nD cD] w fun e W' => e = .returned (.bool true) ∧ Below w.heap.size w W') := fun w hw => sunk_any w ((h.later hw).blk) (h.later hw).dp h.mb h.nb.2 (Nat.le_refl _)
  have HN : Hid (∀ w, Below W.heap.size W w → Calls Try.prog 54 #[.pointer (some ⟨hb, 0, none⟩), .slice pN (nD + 64) cN] w fun e W' => e = .returned (.bool true) ∧ Below w.heap.size w W') := fun w hw => sunk_any w ((h.later hw).blk) ((h.later hw).de.pre (by omega) (fun i hi => if_pos hi)) h.mb h.nb.2 (by omega)
  have H : Hid (HR W hb mk nE nD pE pM pD pN cE cM cD cN) := h
  clear h
  generalize hmE : nE + 64 = mE at HM hBk
  generalize hmD : nD + 64 = mD at HN hBk
  have HZ : Hid (nE + 64 = mE ∧ nD + 64 = mD ∧ W.heap[hb]? = some (.cells #[.slice pE nE cE, .slice pM mE cM, .slice pD nD cD, .slice pN mD cN, .int .i64 mk] 52 (0, 0)) ∧ hb < W.heap.size) := ⟨hmE, hmD, hBk, lt_of_block hBk⟩
  clear hmE hmD
  obtain ⟨y0, y1, y2, y3, y4⟩ := c5h hBk
  clear hBk
  go_enter Try.func23, Try.ntmps23
  go_upto_region 3 with (first | (go_at_call 53; (with_reducible refine HE.mono ?_); rintro e w1 ⟨rfl, hb1⟩; have HM1 := HM.out w1 hb1; obtain ⟨u0, u1, u2, u3, u4⟩ := c5h ((hb1.block _ HZ.out.2.2.2).trans HZ.out.2.2.1)) | (go_at_call 53; (with_reducible refine HM1.mono ?_); rintro e w2 ⟨rfl, hb2⟩; have hB2 := hb1.trans (hb2.mono hb1.size); have HD2 := HD.out w2 hB2; obtain ⟨v0, v1, v2, v3, v4⟩ := c5h ((hB2.block _ HZ.out.2.2.2).trans HZ.out.2.2.1)) | (go_at_call 54; (with_reducible refine HD2.mono ?_); rintro e w3 ⟨rfl, hb3⟩; have hB3 := hB2.trans (hb3.mono hB2.size); have HN3 := HN.out w3 hB3; obtain ⟨a0, a1, a2, a3, a4⟩ := c5h ((hB3.block _ HZ.out.2.2.2).trans HZ.out.2.2.1)) | (go_at_call 54; (with_reducible refine HN3.mono ?_); rintro e w4 ⟨rfl, hb4⟩; have hB4 := hB3.trans (hb4.mono hB3.size); obtain ⟨b0, b1, b2, b3, b4⟩ := c5h ((hB4.block _ HZ.out.2.2.2).trans HZ.out.2.2.1)))
  have HB4 : Hid (Below W.heap.size W w4) := hB4
  clear hb1 hb2 hb3 hb4 hB2 hB3 hB4 HE HM HD HN HM1 HD2 HN3 y0 y1 y2 y3 y4 u0 u1 u2 u3 u4 v0 v1 v2 v3 v4 a0 a1 a2 a3 a4
  have em : IntKind.i64.wrap (-mk) = -mk := by have := H.out.mb; rw [IntKind.wrap_i64]; omega
  go_wp2_with fail
  go_loopw [3] (fun x wr => ∃ i : Nat, x = .int .i64 (i : Int) ∧ nE ≤ i ∧ i ≤ mE ∧ Below W.heap.size W wr) (fun x _ => mE - (intOf x).toNat)
  case atStart => exact ⟨nE, rfl, Nat.le_refl _, by have := HZ.out; omega, HB4.out⟩
  case round =>
    obtain ⟨i, rfl, hni, hin, hbr⟩ := hrel
    obtain ⟨z0, z1, z2, z3, z4⟩ := c5h ((hbr.block _ HZ.out.2.2.2).trans HZ.out.2.2.1)
    clear b0 b1 b2 b3 b4
    have HB : Hid (Below W.heap.size W wr) := hbr
    by_cases hlt : i < mE
    · have d1 : decide ((i : Int) < (mE : Int)) = true := by simp; omega
      have d2 : decide (i < mE) = true := by simp; omega
      have i0 : (0 : Int) ≤ (i : Int) := by omega
      have i1 : (i : Int) < (mE : Int) := by omega
      obtain ⟨b, hp, hX⟩ := H.out.mo.resolve_left (by omega)
      subst hp
      have hX2 := hX.later hbr
      obtain ⟨x0, x1, x2, x3, x4, x5⟩ := EvsL.at hX2 (i := i) (by have := HZ.out; omega)
      rw [show mkM mk nE i = ⟨0, 0, 0, mk, -1, 0⟩ from if_neg (by omega)] at x0 x1 x2 x3 x4 x5
      dsimp only at x0 x1 x2 x3 x4 x5
      have ei : IntKind.i64.wrap ((i : Int) + 1) = ((i + 1 : Nat) : Int) := by have := H.out.nb; have := HZ.out; rw [IntKind.wrap_i64]; omega
      have hm := meas0 hlt
      have hni2 : Hid (nE ≤ i + 1) := Nat.le_succ_of_le hni
      clear hX hX2 hbr z0 z2 z3 hni hin
      go_wp2_with fail
      go_quiet (fail)
      generalize hw5 : World.drewN wr _ = w5
      have hb5 : Below wr.heap.size wr w5 := by rw [← hw5]; exact below_drewNq _ _ _
      clear hw5
      go_wp2_with fail
      exact ⟨⟨i + 1, rfl, hni2.out, by omega, HB.out.trans (hb5.mono HB.out.size)⟩, hm⟩
    · have d1 : decide ((i : Int) < (mE : Int)) = false := by simp; omega
      have d2 : decide (i < mE) = false := by simp; omega
      clear hbr hni hin
      obtain ⟨w9, hw9⟩ : ∃ w9, w9 = wr := ⟨wr, rfl⟩
      subst hw9
      go_wp2_with fail
      go_loopw [4] (fun x wr => ∃ i : Nat, x = .int .i64 (i : Int) ∧ nD ≤ i ∧ i ≤ mD ∧ Below W.heap.size W wr) (fun x _ => mD - (intOf x).toNat)
      case atStart => exact ⟨nD, rfl, Nat.le_refl _, by have := HZ.out; omega, HB.out⟩
      case round =>
        obtain ⟨j, rfl, hnj, hjn, hbr⟩ := hrel
        obtain ⟨a0, a1, a2, a3, a4⟩ := c5h ((hbr.block _ HZ.out.2.2.2).trans HZ.out.2.2.1)
        clear z0 z1 z2 z3 z4
        have HB9 : Hid (Below W.heap.size W wr) := hbr
        by_cases hlt2 : j < mD
        · have e1 : decide ((j : Int) < (mD : Int)) = true := by simp; omega
          have e2 : decide (j < mD) = true := by simp; omega
          have j0 : (0 : Int) ≤ (j : Int) := by omega
          have j1 : (j : Int) < (mD : Int) := by omega
          obtain ⟨b, hp, hX, hX2⟩ := H.out.de.resolve_left (by omega)
          subst hp
          have x0 := (cell_below (a := ⟨b, j, none⟩) hbr hX).trans (hX2 j (by have := HZ.out; omega))
          rw [show nuM mk nD j = -mk from if_neg (by omega)] at x0
          have ej : IntKind.i64.wrap ((j : Int) + 1) = ((j + 1 : Nat) : Int) := by have := H.out.nb; have := HZ.out; rw [IntKind.wrap_i64]; omega
          have hm := meas0 hlt2
          have hnj2 : Hid (nD ≤ j + 1) := Nat.le_succ_of_le hnj
          clear hX hX2 hbr a0 a1 a2 hnj hjn
          go_wp2_with fail
          go_quiet (fail)
          generalize hw5 : World.drewN wr _ = w5
          have hb5 : Below wr.heap.size wr w5 := by rw [← hw5]; exact below_drewNq _ _ _
          clear hw5
          go_wp2_with fail
          exact ⟨⟨j + 1, rfl, hnj2.out, by omega, HB9.out.trans (hb5.mono HB9.out.size)⟩, hm⟩
        · have e1 : decide ((j : Int) < (mD : Int)) = false := by simp; omega
          have e2 : decide (j < mD) = false := by simp; omega
          clear hbr hnj hjn
          go_wp2_with fail
          go_ret
          exact ⟨rfl, HB9.out⟩
end Go.Proofs.Ytlklolmhaiaaiaa
namespace Go.Proofs.Ytlklolmhaiaaiaa
open Go.ChangeShapes Go.WideShapes Go.ChangeAt Go.RowKit
set_option linter.unusedVariables false
set_option linter.unusedSimpArgs false

theorem own_apart {W : World} {base : Nat} {t t' : TypeId} {s m b : Nat} {v : Value} {F : Nat → Value} {cs : Array Value} {fz : Nat × Nat} (h : Own W base t s v m F) (hb : W.heap[b]? = some (.cells cs t' fz)) (ht : t ≠ t') : ∀ k, v.ownBlock = some k → k ≠ b := by
  intro k hk e
  rcases h.form with ⟨rfl, _⟩ | ⟨g, c, rfl, _⟩
  · simp [Value.ownBlock] at hk
  · simp [Value.ownBlock] at hk
    subst hk
    obtain ⟨cur, h1, _⟩ := h.block
    rw [e, hb] at h1
    injection h1 with h1
    injection h1 with h1 h2 h3
    exact ht h2.symm
theorem own_clash {W : World} {base base' : Nat} {t t' : TypeId} {s s' m m' k : Nat} {v v' : Value} {F F' : Nat → Value} (h : Own W base t s v m F) (h' : Own W base' t' s' v' m' F') (ht : t ≠ t') (h1 : v.ownBlock = some k) (h2 : v'.ownBlock = some k) : False := by
  rcases h'.form with ⟨rfl, _⟩ | ⟨g, c, rfl, _⟩
  · simp [Value.ownBlock] at h2
  · simp [Value.ownBlock] at h2
    subst h2
    obtain ⟨cur, h3, _⟩ := h'.block
    exact own_apart h h3 ht _ h1 rfl
/-- one event marked -/
theorem mark_put {W : World} {base b n c i : Nat} {mk : Int} {X : Nat → Ev} (h : EvRow W base (.slice (some ⟨b, 0, none⟩) n c) n (fun k => if k < i then mkE mk k else X k)) : EvRow (W.setCells b (i * 6) (evL (mkE mk i))) base (.slice (some ⟨b, 0, none⟩) n c) n (fun k => if k < i + 1 then mkE mk k else X k) := by
  refine (Own.put h (i * 6) (evL (mkE mk i))).congr fun j hj => ?_
  unfold putF
  have hl : (evL (mkE mk i)).length = 6 := rfl
  by_cases h9 : i * 6 ≤ j ∧ j < i * 6 + 6
  · rw [hl, if_pos h9]
    dsimp only
    rw [show j / 6 = i by omega, if_pos (by omega), show j % 6 = j - i * 6 by omega]
    rfl
  · rw [hl, if_neg h9]
    dsimp only
    by_cases h8 : j / 6 < i
    · rw [if_pos h8, if_pos (by omega)]
    · rw [if_neg h8, if_neg (by omega)]
/-- one number marked -/
theorem sink_put {W : World} {base b n c i : Nat} {mk : Int} {D : Nat → Value} (h : Own W base 3 1 (.slice (some ⟨b, 0, none⟩) n c) n (fun k => if k < i then .int .i64 (mk + k) else D k)) : Own (W.setCell ⟨b, i, none⟩ (.int .i64 (mk + i))) base 3 1 (.slice (some ⟨b, 0, none⟩) n c) n (fun k => if k < i + 1 then .int .i64 (mk + k) else D k) := by
  refine (Own.put h i [.int .i64 (mk + i)]).congr fun j hj => ?_
  unfold putF
  by_cases h9 : i ≤ j ∧ j < i + 1
  · have e : j = i := by omega
    subst e
    simp
  · rw [if_neg (by simpa using h9)]
    dsimp only
    by_cases h8 : j < i
    · rw [if_pos h8, if_pos (by omega)]
    · rw [if_neg h8, if_neg (by omega)]
end Go.Proofs.Ytlklolmhaiaaiaa
namespace Go.Proofs.Ytlklolmhaiaaiaa
open Go.ChangeShapes Go.WideShapes Go.ChangeAt Go.RowKit
set_option linter.unusedVariables false
set_option linter.unusedSimpArgs false

/-! ### append: where the new slice lies, and what stays -/
def AK (w : World) (e : TypeId) (size n m : Nat) (v v' : Value) (w' : World) : Prop :=
  (∃ g cap cur cur', v = .slice (some ⟨g, 0, none⟩) n cap ∧ v' = .slice (some ⟨g, 0, none⟩) (n + m) cap ∧ w.heap[g]? = some (.cells cur e (0, 0)) ∧ w'.heap[g]? = some (.cells cur' e (0, 0)) ∧ cur'.size = cur.size ∧ (∀ j, j < n * size → cur'[j]? = cur[j]?) ∧ (w'.os = w.os ∧ w'.tape = w.tape ∧ w'.output = w.output) ∧ w'.heap.size = w.heap.size ∧ ∀ k : Nat, k ≠ g → w'.heap[k]? = w.heap[k]?) ∨
  (v'.ownBlock = some w.heap.size ∧ Below w.heap.size w w')
theorem run_app_keep {P : Program} (w : World) (base : Nat) (t ty e : TypeId) (i : TypeInfo) (z : Value) (size bytes : Nat) (ht : P.underlying t = some (.slice e)) (hi : P.info? e = some i) (hz : i.zero = some z)
    (hsize : i.size = size) (hby : i.bytes = bytes) (hzs : z.cells.size = size) (hsz : 0 < size) (v : Value) (n : Nat) (xs : List Value) (hown : w.ownsRow base e size v n xs)
    (a : Addr) (m c : Nat) (hm : 0 < m) (news : List Value) (hl : news.length = m * size) (hnews : ∀ j u, news[j]? = some u → w.cell? (a.add j) = some u) (h1 : ∀ u ∈ news, u.oneCell' = true)
    (h63 : n + m ≤ maxLen) (hbytes : (n + m) * bytes ≤ 140737488355328) (hbase : base ≤ w.heap.size) :
    ∃ v' w', (Builtin.append_ #[t, t] ty #[v, .slice (some a) m c]).run P w = .ok v' w' ∧ w'.ownsRow base e size v' (n + m) (xs ++ news) ∧ AK w e size n m v v' w' := by
  obtain ⟨v', w', hr, h2, _⟩ := run_append_own_at (P := P) w base t ty e i z size bytes ht hi hz hsize hby hzs hsz v n xs hown a m c news hl hnews h1 h63 hbytes hbase
  refine ⟨v', w', hr, h2, ?_⟩
  clear h2
  subst hsize hby
  have hsmall : n + m ≤ 9223372036854775807 := by simp only [maxLen] at h63; omega
  rcases hown.2 with ⟨rfl, rfl⟩ | ⟨g, cap, cur, rfl, hbg, hg, hnc, hcm, hcs, htake⟩
  · have hr2 := run_append_nil (P := P) w t ty e i z ht hi hz a m c news hl hnews hm (by omega) (by have hb := hbytes; simp only [Nat.zero_add] at hb; omega)
    rw [hr] at hr2
    injection hr2 with e1 e2
    subst e1 e2
    exact .inr ⟨rfl, (Below.refl _ w).drew.alloc (Nat.le_refl _) _⟩
  · by_cases hroom : n + m ≤ cap
    · have hfit : n * i.size + news.length ≤ cur.size := by rw [hl, hcs, ← Nat.add_mul]; exact Nat.mul_le_mul_right _ hroom
      have hr2 := run_append_room (P := P) w t ty e i ht hi g n cap cur hg a m c news hl hnews h1 hroom hfit
      rw [hr] at hr2
      injection hr2 with e1 e2
      subst e1 e2
      refine .inl ⟨g, cap, cur, _, rfl, rfl, hg, setRow_heap w g cur _ e _ hg, ?_, fun j hj => ?_, ⟨rfl, rfl, rfl⟩, by simp, fun k hk => setRow_other w g k _ hk⟩
      · simp only [List.size_toArray, List.length_append, List.length_take, List.length_drop, Array.length_toList]
        omega
      · rw [List.getElem?_toArray, List.append_assoc, List.getElem?_append_left (by rw [List.length_take, Array.length_toList]; omega), List.getElem?_take, if_pos hj]
        simp
    · have holds : ∀ j u, xs[j]? = some u → w.cell? ((⟨g, 0, none⟩ : Addr).add j) = some u := hown.cells (g := g) rfl
      have hr2 := run_append_grow (P := P) w t ty e i z ht hi hz ⟨g, 0, none⟩ n cap xs hown.1 holds a m c news hl hnews (by omega) (by omega) (growslice_fits (by omega) hbytes)
      rw [hr] at hr2
      injection hr2 with e1 e2
      subst e1 e2
      exact .inr ⟨rfl, (Below.refl _ w).drew.alloc (Nat.le_refl _) _⟩
theorem step_appK {P : Program} {ops : Array Oper} {o : Oper} {a : Act} {w : World} {K : Act → World → Prop} {Q : Exit → Act → World → Prop} {E : Prop}
    (hg : o.guard = none) (s x : Operand) (t : TypeId) (hop : o.op = Op.call { callee := Callee.builtin Builtin.append, args := #[s, x], argTypes := #[t, t] })
    (base : Nat) (e : TypeId) (i : TypeInfo) (z : Value) (size bytes : Nat) (ht : P.underlying t = some (.slice e)) (hi : P.info? e = some i) (hz : i.zero = some z)
    (hsize : i.size = size) (hby : i.bytes = bytes) (hzs : z.cells.size = size) (hsz : 0 < size)
    (v : Value) (n : Nat) (xs : List Value) (hs : a.eval s = v) (hown : w.ownsRow base e size v n xs)
    (ad : Addr) (m c : Nat) (hm : 0 < m) (news : List Value) (hx : a.eval x = .slice (some ad) m c) (hl : news.length = m * size) (hnews : ∀ j u, news[j]? = some u → w.cell? (ad.add j) = some u) (h1 : ∀ u ∈ news, u.oneCell' = true)
    (h63 : n + m ≤ maxLen) (hbytes : (n + m) * bytes ≤ 140737488355328) (hbase : base ≤ w.heap.size)
    (hK : ∀ v' w', w'.ownsRow base e size v' (n + m) (xs ++ news) → AK w e size n m v v' w' → K (a.put o.dst v') w') :
    if Region.wanted o (yielded ops a.tmps) = true then Oper.wp P o a w K Q else E := by
  have hw : Region.wanted o (yielded ops a.tmps) = true := by simp [Region.wanted, hg]
  rw [if_pos hw]
  obtain ⟨v', w', hr, h2, h3⟩ := run_app_keep (P := P) w base t o.type e i z size bytes ht hi hz hsize hby hzs hsz v n xs hown ad m c hm news hl hnews h1 h63 hbytes hbase
  unfold Oper.wp execOp
  simp only [hop, resolve, invoke, builtin, Sem.run_bind, Sem.run_pure, Result.andThen_ok, List.map_toArray, List.map_cons, List.map_nil, hs, hx, hr]
  exact hK _ _ h2 h3
/-- a row and what append makes of it -/
structure Gz (B0 : Nat) (W : World) (base : Nat) (t : TypeId) (s n m : Nat) (vE vM : Value) (F G : Nat → Value) : Prop where
  own : Own W base t s vE n F
  own2 : Own W base t s vM m G
  rl : (∃ g c, vE = .slice (some ⟨g, 0, none⟩) n c ∧ vM = .slice (some ⟨g, 0, none⟩) m c) ∨ ∀ g, vM.ownBlock = some g → vE.ownBlock ≠ some g ∧ B0 ≤ g
  le : n ≤ m
theorem Gz.far {B0 : Nat} {W W' : World} {base : Nat} {t : TypeId} {s n m : Nat} {vE vM : Value} {F G : Nat → Value} (h : Gz B0 W base t s n m vE vM F G) (hk : ∀ b, (vE.ownBlock = some b ∨ vM.ownBlock = some b) → W'.heap[b]? = W.heap[b]?) : Gz B0 W' base t s n m vE vM F G :=
  ⟨h.own.far fun b hb => hk b (.inl hb), h.own2.far fun b hb => hk b (.inr hb), h.rl, h.le⟩
theorem Gz.start {B0 : Nat} {W : World} {base : Nat} {t : TypeId} {s n : Nat} {vE : Value} {F G : Nat → Value} (h : Own W base t s vE n F) (hG : ∀ j, j < n * s → F j = G j) : Gz B0 W base t s n n vE vE F G := by
  refine ⟨h, h.congr hG, ?_, Nat.le_refl _⟩
  rcases h.form with ⟨h1, _⟩ | ⟨g, c, h1, _⟩
  · refine .inr fun g hg => ?_
    rw [h1] at hg
    cases hg
  · exact .inl ⟨g, c, h1, h1⟩
theorem Gz.app {B0 : Nat} {W W' : World} {base : Nat} {t : TypeId} {s n m : Nat} {vE vM v' : Value} {F G G' : Nat → Value} (h : Gz B0 W base t s n m vE vM F G) (hB : B0 ≤ W.heap.size) (ha : AK W t s m 1 vM v' W') (ho : Own W' base t s v' (m + 1) G') : Gz B0 W' base t s n (m + 1) vE v' F G' ∧ W.heap.size ≤ W'.heap.size ∧ (W'.os = W.os ∧ W'.tape = W.tape ∧ W'.output = W.output) ∧ ∀ b, b < W.heap.size → vM.ownBlock ≠ some b → W'.heap[b]? = W.heap[b]? := by
  have hle := h.le
  rcases ha with ⟨g, cap, cur, cur', e1, e2, e3, e4, e5, e6, e7, e8, e9⟩ | ⟨e1, e2⟩
  · have hM : vM.ownBlock = some g := by rw [e1]; rfl
    refine ⟨⟨?_, ho, ?_, by omega⟩, by omega, e7, fun b hb hne => e9 b fun e => hne (by rw [e]; exact hM)⟩
    · rcases h.rl with ⟨g2, c, h1, h2⟩ | h1
      · rw [e1] at h2
        injection h2 with h2 _ h3
        injection h2 with h2
        injection h2 with h2
        subst h2 h3
        have hO := h.own
        rw [h1] at hO ⊢
        obtain ⟨cu, k1, k2, k3, k4, k5, k6⟩ := hO.block
        rw [e3] at k1
        injection k1 with k1
        injection k1 with k1
        subst k1
        exact Own.mk' e4 (by rw [e5]; exact k2) k3 k4 k5 fun j hj => (e6 j (Nat.lt_of_lt_of_le hj (Nat.mul_le_mul_right _ hle))).trans (k6 j hj)
      · refine h.own.far fun b hb => e9 b fun e => ?_
        subst e
        exact (h1 _ hM).1 hb
    · rcases h.rl with ⟨g2, c, h1, h2⟩ | h1
      · rw [e1] at h2
        injection h2 with h2 _ h3
        injection h2 with h2
        injection h2 with h2
        subst h2 h3
        exact .inl ⟨g, cap, h1, e2⟩
      · refine .inr fun g3 hg3 => ?_
        rw [e2] at hg3
        exact h1 g3 (hM.trans hg3)
  · refine ⟨⟨h.own.later e2, ho, .inr fun g hg => ?_, by omega⟩, e2.size, ⟨e2.os, e2.tape, e2.output⟩, fun b hb _ => e2.block b hb⟩
    rw [e1] at hg
    injection hg with hg
    subst hg
    refine ⟨fun e => ?_, hB⟩
    have := (h.own.lt _ e).2
    omega
end Go.Proofs.Ytlklolmhaiaaiaa
namespace Go.Proofs.Ytlklolmhaiaaiaa
open Go.ChangeShapes Go.WideShapes Go.ChangeAt Go.RowKit
set_option linter.unusedVariables false
set_option linter.unusedSimpArgs false

/-! ### the struct while it is marked -/
def FP (hb : Nat) (vE vD : Value) : Nat → Prop := fun k => k = hb ∨ vE.ownBlock = some k ∨ vD.ownBlock = some k
def eF (mk : Int) : Nat → Value := fun j => evC (mkE mk (j / 6)) (j % 6)
def eG (mk : Int) (n : Nat) : Nat → Value := fun j => evC (mkM mk n (j / 6)) (j % 6)
def dF (mk : Int) : Nat → Value := fun k => .int .i64 (mk + k)
def dG (mk : Int) (n : Nat) : Nat → Value := fun k => .int .i64 (nuM mk n k)
/-- mE events, mD numbers by now -/
structure L3 (W0 W : World) (base hb : Nat) (mk : Int) (nE nD mE mD : Nat) (pE pM pD pN : Option Addr) (cE cM cD cN : Nat) : Prop where
  blk : W.heap[hb]? = some (.cells #[.slice pE nE cE, .slice pM mE cM, .slice pD nD cD, .slice pN mD cN, .int .i64 mk] 52 (0, 0))
  e : Gz W0.heap.size W base 64 6 nE mE (.slice pE nE cE) (.slice pM mE cM) (eF mk) (eG mk nE)
  d : Gz W0.heap.size W base 3 1 nD mD (.slice pD nD cD) (.slice pN mD cN) (dF mk) (dG mk nD)
  ch : Ch (FP hb (.slice pE nE cE) (.slice pD nD cD)) W0 W
variable {W0 W W' : World} {base hb : Nat} {mk : Int} {nE nD mE mD : Nat} {pE pM pD pN : Option Addr} {cE cM cD cN : Nat}
theorem L3.later (h : L3 W0 W base hb mk nE nD mE mD pE pM pD pN cE cM cD cN) (hB : Below W.heap.size W W') : L3 W0 W' base hb mk nE nD mE mD pE pM pD pN cE cM cD cN :=
  ⟨(hB.block _ (lt_of_block h.blk)).trans h.blk, h.e.far fun b hb => hB.block b (by rcases hb with hb | hb; exact (h.e.own.lt b hb).2; exact (h.e.own2.lt b hb).2), h.d.far fun b hb => hB.block b (by rcases hb with hb | hb; exact (h.d.own.lt b hb).2; exact (h.d.own2.lt b hb).2), h.ch.trans (Ch.below hB)⟩
/-- a block of a slice's own has its type -/
theorem own_typ {W : World} {base : Nat} {t : TypeId} {s m b : Nat} {v : Value} {F : Nat → Value} (h : Own W base t s v m F) (hb : v.ownBlock = some b) : ∃ cs, W.heap[b]? = some (.cells cs t (0, 0)) := by
  rcases h.form with ⟨h1, _⟩ | ⟨g, c, h1, _⟩
  · rw [h1] at hb
    cases hb
  · subst h1
    injection hb with hb
    subst hb
    obtain ⟨cur, h2, _⟩ := h.block
    exact ⟨cur, h2⟩
theorem L3.apE (h : L3 W0 W base hb mk nE nD mE mD pE pM pD pN cE cM cD cN) : (Value.slice pM mE cM).ownBlock ≠ some hb ∧ ∀ b, ((Value.slice pD nD cD).ownBlock = some b ∨ (Value.slice pN mD cN).ownBlock = some b) → (Value.slice pM mE cM).ownBlock ≠ some b := by
  refine ⟨fun e => own_apart h.e.own2 h.blk (by decide) _ e rfl, fun b hb e => ?_⟩
  rcases hb with hb | hb
  · exact own_clash h.e.own2 h.d.own (by decide) e hb
  · exact own_clash h.e.own2 h.d.own2 (by decide) e hb
theorem L3.apD (h : L3 W0 W base hb mk nE nD mE mD pE pM pD pN cE cM cD cN) : (Value.slice pN mD cN).ownBlock ≠ some hb ∧ ∀ b, ((Value.slice pE nE cE).ownBlock = some b ∨ (Value.slice pM mE cM).ownBlock = some b) → (Value.slice pN mD cN).ownBlock ≠ some b := by
  refine ⟨fun e => own_apart h.d.own2 h.blk (by decide) _ e rfl, fun b hb e => ?_⟩
  rcases hb with hb | hb
  · exact own_clash h.d.own2 h.e.own (by decide) e hb
  · exact own_clash h.d.own2 h.e.own2 (by decide) e hb
theorem ch_set_in {S : Nat → Prop} {W0 W : World} {b k : Nat} {v : Value} (h : Ch S W0 W) (hb : S b) : Ch S W0 (W.setCell ⟨b, k, none⟩ v) := h.trans (Ch.set S W b k v hb)
/-- what an append may change -/
theorem ch_app {S : Nat → Prop} {W0 W W' : World} {n m : Nat} {vE vM : Value} (h : Ch S W0 W) (hB : W0.heap.size ≤ W.heap.size) (h2 : W.heap.size ≤ W'.heap.size) (h3 : W'.os = W.os ∧ W'.tape = W.tape ∧ W'.output = W.output) (h4 : ∀ b, b < W.heap.size → vM.ownBlock ≠ some b → W'.heap[b]? = W.heap[b]?) (hr : (∃ g c, vE = .slice (some ⟨g, 0, none⟩) n c ∧ vM = .slice (some ⟨g, 0, none⟩) m c) ∨ ∀ g, vM.ownBlock = some g → vE.ownBlock ≠ some g ∧ W0.heap.size ≤ g) (hS : ∀ b, vE.ownBlock = some b → S b) : Ch S W0 W' := by
  refine ⟨h3.1.trans h.os, h3.2.1.trans h.tape, h3.2.2.trans h.output, Nat.le_trans hB h2, fun b hb hs => (h4 b (by omega) fun e => ?_).trans (h.block b hb hs)⟩
  rcases hr with ⟨g, c, k1, k2⟩ | k1
  · rw [k2] at e
    exact hs (hS b (by rw [k1]; exact e))
  · have := (k1 b e).2
    omega
/-- one event appended -/
theorem L3.appE {v' : Value} (h : L3 W0 W base hb mk nE nD mE mD pE pM pD pN cE cM cD cN) (hB : W0.heap.size ≤ W.heap.size) (ha : AK W 64 6 mE 1 (.slice pM mE cM) v' W') (ho : W'.ownsRow base 64 6 v' (mE + 1) (cellsF (eG mk nE) (mE * 6) ++ evL ⟨0, 0, 0, mk, -1, 0⟩)) :
    ∃ q c, v' = .slice q (mE + 1) c ∧ W'.heap[hb]? = W.heap[hb]? ∧ L3 W0 (W'.setCell ⟨hb, 1, none⟩ (.slice q (mE + 1) c)) base hb mk nE nD (mE + 1) mD pE q pD pN cE c cD cN := by
  have hO : Own W' base 64 6 v' (mE + 1) (eG mk nE) := by
    have e6 : evL ⟨0, 0, 0, mk, -1, 0⟩ = cellsF (fun j => evC ((fun _ => (⟨0, 0, 0, mk, -1, 0⟩ : Ev)) (j / 6)) (j % 6)) (1 * 6) := rfl
    rw [e6] at ho
    refine EvRow.congr (EvRow.app (Y := mkM mk nE) (Z := fun _ => (⟨0, 0, 0, mk, -1, 0⟩ : Ev)) ho) rfl fun k hk => ?_
    by_cases h1 : k < mE
    · rw [if_pos h1]
    · rw [if_neg h1]
      unfold mkM
      rw [if_neg (by have := h.e.le; have := h.d.le; omega)]
  obtain ⟨h1, h2, h3, h4⟩ := h.e.app hB ha hO
  obtain ⟨q, c, rfl⟩ := own_slice0 hO
  have hlb := lt_of_block h.blk
  have hblk := (h4 hb hlb h.apE.1)
  have hdf : ∀ b, ((Value.slice pD nD cD).ownBlock = some b ∨ (Value.slice pN mD cN).ownBlock = some b) → W'.heap[b]? = W.heap[b]? := fun b hb9 => h4 b (by rcases hb9 with hb9 | hb9; exact (h.d.own.lt b hb9).2; exact (h.d.own2.lt b hb9).2) (h.apE.2 b hb9)
  have hb' := hblk.trans h.blk
  refine ⟨q, c, rfl, hblk, ?_, h1.far fun b hb9 => Below.heap_setCell _ _ _ _ ?_, (h.d.far hdf).far fun b hb9 => Below.heap_setCell _ _ _ _ ?_, ?_⟩
  · rw [setCell_block _ _ _ _ hb']
    rfl
  · show b ≠ hb
    rintro rfl
    rcases hb9 with hb9 | hb9
    · exact own_apart h1.own hb' (by decide) _ hb9 rfl
    · exact own_apart h1.own2 hb' (by decide) _ hb9 rfl
  · show b ≠ hb
    rintro rfl
    rcases hb9 with hb9 | hb9
    · exact own_apart h.d.own h.blk (by decide) _ hb9 rfl
    · exact own_apart h.d.own2 h.blk (by decide) _ hb9 rfl
  · exact ch_set_in (ch_app h.ch hB h2 h3 h4 h.e.rl fun b hb9 => .inr (.inl hb9)) (.inl rfl)
/-- one number appended -/
theorem L3.appD {v' : Value} (h : L3 W0 W base hb mk nE nD mE mD pE pM pD pN cE cM cD cN) (hB : W0.heap.size ≤ W.heap.size) (ha : AK W 3 1 mD 1 (.slice pN mD cN) v' W') (ho : W'.ownsRow base 3 1 v' (mD + 1) (cellsF (dG mk nD) (mD * 1) ++ [.int .i64 (-mk)])) :
    ∃ q c, v' = .slice q (mD + 1) c ∧ W'.heap[hb]? = W.heap[hb]? ∧ L3 W0 (W'.setCell ⟨hb, 3, none⟩ (.slice q (mD + 1) c)) base hb mk nE nD mE (mD + 1) pE pM pD q cE cM cD c := by
  have hO : Own W' base 3 1 v' (mD + 1) (dG mk nD) := by
    have e6 : [Value.int .i64 (-mk)] = cellsF (fun _ => .int .i64 (-mk)) 1 := rfl
    rw [e6, cellsF_append, show mD * 1 + 1 = (mD + 1) * 1 by omega] at ho
    refine Own.congr (F := fun x => if x < mD * 1 then dG mk nD x else .int .i64 (-mk)) ho fun k hk => ?_
    by_cases h1 : k < mD * 1
    · rw [if_pos h1]
    · rw [if_neg h1]
      unfold dG nuM
      rw [if_neg (by have := h.e.le; have := h.d.le; omega)]
  obtain ⟨h1, h2, h3, h4⟩ := h.d.app hB ha hO
  obtain ⟨q, c, rfl⟩ := own_slice0 hO
  have hlb := lt_of_block h.blk
  have hblk := (h4 hb hlb h.apD.1)
  have hdf : ∀ b, ((Value.slice pE nE cE).ownBlock = some b ∨ (Value.slice pM mE cM).ownBlock = some b) → W'.heap[b]? = W.heap[b]? := fun b hb9 => h4 b (by rcases hb9 with hb9 | hb9; exact (h.e.own.lt b hb9).2; exact (h.e.own2.lt b hb9).2) (h.apD.2 b hb9)
  have hb' := hblk.trans h.blk
  refine ⟨q, c, rfl, hblk, ?_, (h.e.far hdf).far fun b hb9 => Below.heap_setCell _ _ _ _ ?_, h1.far fun b hb9 => Below.heap_setCell _ _ _ _ ?_, ?_⟩
  · rw [setCell_block _ _ _ _ hb']
    rfl
  · show b ≠ hb
    rintro rfl
    rcases hb9 with hb9 | hb9
    · exact own_apart h.e.own h.blk (by decide) _ hb9 rfl
    · exact own_apart h.e.own2 h.blk (by decide) _ hb9 rfl
  · show b ≠ hb
    rintro rfl
    rcases hb9 with hb9 | hb9
    · exact own_apart h1.own hb' (by decide) _ hb9 rfl
    · exact own_apart h1.own2 hb' (by decide) _ hb9 rfl
  · exact ch_set_in (ch_app h.ch hB h2 h3 h4 h.d.rl fun b hb9 => .inr (.inr hb9)) (.inl rfl)
/-- where it begins -/
theorem L3.init (h1 : W.heap[hb]? = some (.cells #[.slice pE nE cE, .slice none 0 0, .slice pD nD cD, .slice none 0 0, .int .i64 mk] 52 (0, 0))) (h2 : EvRow W base (.slice pE nE cE) nE (mkE mk)) (h3 : Own W base 3 1 (.slice pD nD cD) nD (fun k => .int .i64 (mk + k))) (h4 : Ch (FP hb (.slice pE nE cE) (.slice pD nD cD)) W0 W) :
    L3 W0 ((W.setCell ⟨hb, 1, none⟩ (.slice pE nE cE)).setCell ⟨hb, 3, none⟩ (.slice pD nD cD)) base hb mk nE nD nE nD pE pE pD pD cE cE cD cD := by
  have hb1 := setCell_block W hb 1 (.slice pE nE cE) h1
  have hb2 := setCell_block _ hb 3 (.slice pD nD cD) hb1
  have far : ∀ b, b ≠ hb → ((W.setCell ⟨hb, 1, none⟩ (.slice pE nE cE)).setCell ⟨hb, 3, none⟩ (.slice pD nD cD)).heap[b]? = W.heap[b]? := fun b hne => (Below.heap_setCell _ _ _ b hne).trans (Below.heap_setCell _ _ _ b hne)
  refine ⟨hb2, (Gz.start h2 fun j hj => ?_).far fun b hb9 => far b ?_, (Gz.start h3 fun j hj => ?_).far fun b hb9 => far b ?_, ch_set_in (ch_set_in h4 (.inl rfl)) (.inl rfl)⟩
  · show evC (mkE mk (j / 6)) (j % 6) = evC (mkM mk nE (j / 6)) (j % 6)
    unfold mkM
    rw [if_pos (by omega)]
  · rcases hb9 with hb9 | hb9 <;> exact own_apart h2 h1 (by decide) _ hb9
  · show _ = Value.int .i64 (nuM mk nD j)
    unfold nuM
    rw [if_pos (by omega)]
  · rcases hb9 with hb9 | hb9 <;> exact own_apart h3 h1 (by decide) _ hb9
theorem evp_of {W : World} {base : Nat} {p : Option Addr} {n c : Nat} {X : Nat → Ev} (h : EvRow W base (.slice p n c) n X) : EvP W p n X := by
  rcases Own.form h with ⟨_, h2⟩ | ⟨g, c9, h1, _, h2⟩
  · exact .inl h2
  · injection h1 with h1 _ h3
    subst h1 h3
    refine .inr ⟨g, rfl, h2, fun i r hi hr => ?_⟩
    have h9 := Own.cell h (j := i * 6 + r) (by omega)
    rw [h9]
    show some (evC (X ((i * 6 + r) / 6)) ((i * 6 + r) % 6)) = _
    rw [show (i * 6 + r) / 6 = i by omega, show (i * 6 + r) % 6 = r by omega]
theorem nup_of {W : World} {base : Nat} {p : Option Addr} {n c : Nat} {X : Nat → Int} (h : Own W base 3 1 (.slice p n c) n (fun k => .int .i64 (X k))) : NuP W p n X := by
  rcases Own.form h with ⟨_, h2⟩ | ⟨g, c9, h1, _, h2⟩
  · exact .inl h2
  · injection h1 with h1 _ h3
    subst h1 h3
    exact .inr ⟨g, rfl, h2, fun i hi => Own.cell h (j := i) (by omega)⟩
theorem L3.hr (h : L3 W0 W base hb mk nE nD (nE + 64) (nD + 64) pE pM pD pN cE cM cD cN) (hm : 0 ≤ mk ∧ mk ≤ 7000000000000000000) (hn : nE ≤ 8192 ∧ nD ≤ 8192) : HR W hb mk nE nD pE pM pD pN cE cM cD cN :=
  ⟨h.blk, evp_of h.e.own, evp_of h.e.own2, nup_of h.d.own, nup_of h.d.own2, hm, hn⟩
end Go.Proofs.Ytlklolmhaiaaiaa
