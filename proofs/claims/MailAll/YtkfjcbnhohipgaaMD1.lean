import Derived.Test.YtkfjcbnhohipgaaMB11
import Derived.BigQuiet
import Derived.Deep.RegionLaw
import Derived.Deep.RegionHeld3
import Derived.Deep.Cut
import Derived.Deep.DeepCutAuto
import Derived.Deep.CutBlock
import Derived.Deep.CutRange
import Derived.Deep.AppendLies
import Derived.Handy
import Derived.Lib.RabinKarpLaws
namespace Go.Proofs.Ytkfjcbnhohipgaa
open Go.ChangeShapes Go.WideShapes Go.ChangeAt Go.RowKit
set_option linter.unusedVariables false
set_option linter.unusedSimpArgs false


/-- a letter -/
structure Lt where
  f : Nat
  t : Nat
  p : Int
  k : Int
  m : Int
def lt0 : Lt := ⟨0, 0, 0, 0, 0⟩
def ltV (l : Lt) (r : Nat) : Value := if r = 0 then .int .i64 (l.f : Int) else if r = 1 then .int .i64 (l.t : Int) else if r = 2 then .int .i64 l.p else if r = 3 then .int .i64 l.k else .int .i64 l.m
def lF (L : List Lt) (j : Nat) : Value := ltV (L.getD (j / 5) lt0) (j % 5)
structure RX (Fo : Nat → Option Obj) (W : World) (base qb pb fb n : Nat) (room : Int) (srt : Bool) (ph fl : Nat → Int) (v : Value) (L : List Lt) : Prop where
  p : W.heap[qb]? = some (.cells #[.int .i64 (n : Int), .int .i64 room, .bool srt, .slice (some ⟨pb, 0, none⟩) n n, .slice (some ⟨fb, 0, none⟩) n n, v] 96 (0, 0))
  h : Own W base 3 1 (.slice (some ⟨pb, 0, none⟩) n n) n (fun i => .int .i64 (ph i))
  f : Own W base 3 1 (.slice (some ⟨fb, 0, none⟩) n n) n (fun i => .int .i64 (fl i))
  l : Own W base 110 5 v L.length (lF L)
  ne : pb ≠ fb
  hbs : base ≤ qb
  fr : ∀ k o, Fo k = some o → W.heap[k]? = some o ∧ k ≠ qb ∧ k ≠ pb ∧ k ≠ fb ∧ v.ownBlock ≠ some k
theorem RX.cells {W : World} {Fo : Nat → Option Obj} {base qb pb fb n : Nat} {room : Int} {srt : Bool} {ph fl : Nat → Int} {v : Value} {L : List Lt} (h : RX Fo W base qb pb fb n room srt ph fl v L) : W.cell? ⟨qb, 0, none⟩ = some (.int .i64 (n : Int)) ∧ W.cell? ⟨qb, 1, none⟩ = some (.int .i64 room) ∧ W.cell? ⟨qb, 2, none⟩ = some (.bool srt) ∧ W.cell? ⟨qb, 3, none⟩ = some (.slice (some ⟨pb, 0, none⟩) n n) ∧ W.cell? ⟨qb, 4, none⟩ = some (.slice (some ⟨fb, 0, none⟩) n n) ∧ W.cell? ⟨qb, 5, none⟩ = some v := by
  have h := h.p
  refine ⟨?_, ?_, ?_, ?_, ?_, ?_⟩
  all_goals (unfold World.cell?; rw [h]; rfl)
theorem RX.later {W : World} {Fo : Nat → Option Obj} {base qb pb fb n : Nat} {room : Int} {srt : Bool} {ph fl : Nat → Int} {v : Value} {L : List Lt} {W' : World} (h : RX Fo W base qb pb fb n room srt ph fl v L) (hb : Below W.heap.size W W') : RX Fo W' base qb pb fb n room srt ph fl v L := ⟨(hb.block _ (lt_of_block h.p)).trans h.p, h.h.later hb, h.f.later hb, h.l.later hb, h.ne, h.hbs, fun k o hk => ⟨(hb.block _ (lt_of_block (h.fr k o hk).1)).trans (h.fr k o hk).1, (h.fr k o hk).2⟩⟩
theorem RX.phc {W : World} {Fo : Nat → Option Obj} {base qb pb fb n : Nat} {room : Int} {srt : Bool} {ph fl : Nat → Int} {v : Value} {L : List Lt} (h : RX Fo W base qb pb fb n room srt ph fl v L) {i : Nat} (hi : i < n) : W.cell? ⟨pb, i, none⟩ = some (.int .i64 (ph i)) := h.h.cell (j := i) (by omega)
theorem RX.flc {W : World} {Fo : Nat → Option Obj} {base qb pb fb n : Nat} {room : Int} {srt : Bool} {ph fl : Nat → Int} {v : Value} {L : List Lt} (h : RX Fo W base qb pb fb n room srt ph fl v L) {i : Nat} (hi : i < n) : W.cell? ⟨fb, i, none⟩ = some (.int .i64 (fl i)) := h.f.cell (j := i) (by omega)
theorem lF_at (L : List Lt) (i r : Nat) (hr : r < 5) : lF L (i * 5 + r) = ltV (L.getD i lt0) r := by
  unfold lF
  rw [show (i * 5 + r) / 5 = i by omega, show (i * 5 + r) % 5 = r by omega]
/-- a letter of a row -/
theorem ltc {W : World} {base g m c : Nat} {L : List Lt} (h : Own W base 110 5 (.slice (some ⟨g, 0, none⟩) m c) m (lF L)) {i : Nat} (hi : i < m) : W.cell? ⟨g, i * 5, none⟩ = some (.int .i64 ((L.getD i lt0).f : Int)) ∧ W.cell? ⟨g, i * 5 + 1, none⟩ = some (.int .i64 ((L.getD i lt0).t : Int)) ∧ W.cell? ⟨g, i * 5 + 2, none⟩ = some (.int .i64 (L.getD i lt0).p) ∧ W.cell? ⟨g, i * 5 + 3, none⟩ = some (.int .i64 (L.getD i lt0).k) ∧ W.cell? ⟨g, i * 5 + 4, none⟩ = some (.int .i64 (L.getD i lt0).m) := by
  have a : ∀ r, r < 5 → W.cell? ⟨g, i * 5 + r, none⟩ = some (ltV (L.getD i lt0) r) := fun r hr => by rw [h.cell (j := i * 5 + r) (by omega), lF_at L i r hr]
  exact ⟨a 0 (by decide), a 1 (by decide), a 2 (by decide), a 3 (by decide), a 4 (by decide)⟩
/-- a worker's phase is another -/
theorem RX.setPh {W : World} {Fo : Nat → Option Obj} {base qb pb fb n : Nat} {room : Int} {srt : Bool} {ph fl : Nat → Int} {v : Value} {L : List Lt} (h : RX Fo W base qb pb fb n room srt ph fl v L) (x : Nat) (hx : x < n) (z : Int) : RX Fo (W.setCell ⟨pb, x, none⟩ (.int .i64 z)) base qb pb fb n room srt (fun i => if i = x then z else ph i) fl v L := by
  obtain ⟨cp, hcp, _⟩ := h.h.block
  have hset : ∀ j, j ≠ pb → (W.setCell ⟨pb, x, none⟩ (.int .i64 z)).heap[j]? = W.heap[j]? := fun j hj => Below.heap_setCell _ _ _ _ hj
  refine ⟨(hset qb (typ_ne h.p hcp (by decide))).trans h.p, ?_, h.f.far fun k hk => hset k ?_, h.l.far fun k hk => hset k (h.l.apart hcp (by decide) k hk), h.ne, h.hbs, fun k o hk => ⟨(hset k (h.fr k o hk).2.2.1).trans (h.fr k o hk).1, (h.fr k o hk).2⟩⟩
  · refine Own.congr (h.h.put x [.int .i64 z]) fun j hj => ?_
    unfold putF
    simp only [List.length_singleton]
    by_cases e : j = x
    · subst e
      rw [if_pos (by omega), show j - j = 0 by omega, if_pos rfl]
      rfl
    · rw [if_neg (by omega), if_neg e]
  · simp [Value.ownBlock] at hk
    subst hk
    exact Ne.symm h.ne
theorem RX.setFl {W : World} {Fo : Nat → Option Obj} {base qb pb fb n : Nat} {room : Int} {srt : Bool} {ph fl : Nat → Int} {v : Value} {L : List Lt} (h : RX Fo W base qb pb fb n room srt ph fl v L) (x : Nat) (hx : x < n) (z : Int) : RX Fo (W.setCell ⟨fb, x, none⟩ (.int .i64 z)) base qb pb fb n room srt ph (fun i => if i = x then z else fl i) v L := by
  obtain ⟨cp, hcp, _⟩ := h.f.block
  have hset : ∀ j, j ≠ fb → (W.setCell ⟨fb, x, none⟩ (.int .i64 z)).heap[j]? = W.heap[j]? := fun j hj => Below.heap_setCell _ _ _ _ hj
  refine ⟨(hset qb (typ_ne h.p hcp (by decide))).trans h.p, h.h.far fun k hk => hset k ?_, ?_, h.l.far fun k hk => hset k (h.l.apart hcp (by decide) k hk), h.ne, h.hbs, fun k o hk => ⟨(hset k (h.fr k o hk).2.2.2.1).trans (h.fr k o hk).1, (h.fr k o hk).2⟩⟩
  · simp [Value.ownBlock] at hk
    subst hk
    exact h.ne
  · refine Own.congr (h.f.put x [.int .i64 z]) fun j hj => ?_
    unfold putF
    simp only [List.length_singleton]
    by_cases e : j = x
    · subst e
      rw [if_pos (by omega), show j - j = 0 by omega, if_pos rfl]
      rfl
    · rw [if_neg (by omega), if_neg e]
/-- the letters are others -/
theorem RX.setL {W : World} {Fo : Nat → Option Obj} {base qb pb fb n : Nat} {room : Int} {srt : Bool} {ph fl : Nat → Int} {v : Value} {L : List Lt} {W' : World} (h : RX Fo W base qb pb fb n room srt ph fl v L) (hg : W.grownBy W' v.ownBlock) (v' : Value) (L' : List Lt) (hown : Own W' base 110 5 v' L'.length (lF L')) (hat : ∀ k, v'.ownBlock = some k → v.ownBlock = some k ∨ ∀ o, Fo k ≠ some o) :
    RX Fo (W'.setCell ⟨qb, 5, none⟩ v') base qb pb fb n room srt ph fl v' L' := by
  have kq : W'.heap[qb]? = some (.cells #[.int .i64 (n : Int), .int .i64 room, .bool srt, .slice (some ⟨pb, 0, none⟩) n n, .slice (some ⟨fb, 0, none⟩) n n, v] 96 (0, 0)) := (hg.block _ (lt_of_block h.p) fun e2 => h.l.apart h.p (by decide) qb e2.symm rfl).trans h.p
  have kh := h.h.keptBy hg fun k hk e2 => h.h.clash h.l (by decide) hk e2
  have kf := h.f.keptBy hg fun k hk e2 => h.f.clash h.l (by decide) hk e2
  have hset : ∀ j, j ≠ qb → (W'.setCell ⟨qb, 5, none⟩ v').heap[j]? = W'.heap[j]? := fun j hj => Below.heap_setCell _ _ _ _ hj
  refine ⟨?_, kh.far fun k hk => hset k (kh.apart kq (by decide) k hk), kf.far fun k hk => hset k (kf.apart kq (by decide) k hk), hown.far fun k hk => hset k (hown.apart kq (by decide) k hk), h.ne, h.hbs, fun k o hk => ?_⟩
  · show (W'.heap.modify qb _)[qb]? = _
    rw [Array.getElem?_modify, if_pos rfl, kq]
    rfl
  · obtain ⟨f1, f2, f3, f4, f5⟩ := h.fr k o hk
    refine ⟨(hset k f2).trans ((hg.block _ (lt_of_block f1) fun e2 => f5 e2.symm).trans f1), f2, f3, f4, fun e2 => ?_⟩
    rcases hat k e2 with h3 | h3
    · exact f5 h3
    · exact h3 o hk
set_option maxRecDepth 100000 in
theorem rhas_any (x : Int) {Fo : Nat → Option Obj} {base qb pb fb n : Nat} {room : Int} {srt : Bool} {ph fl : Nat → Int} {v : Value} {L : List Lt} (W : World) (h : RX Fo W base qb pb fb n room srt ph fl v L) : Calls Try.prog 55 #[.pointer (some ⟨qb, 0, none⟩), .int .i64 x] W fun e W' => e = .returned (.bool (decide (0 ≤ x) && decide (x < (n : Int)))) ∧ W' = W := by
  obtain ⟨c0, c1, c2, c3, c4, c5⟩ := h.cells
  clear h
  by_cases h0 : 0 ≤ x
  · have d0 : decide (0 ≤ x) = true := by simpa using h0
    by_cases h1 : x < (n : Int)
    · have d1 : decide (x < (n : Int)) = true := by simpa using h1
      go_enter Try.func55, Try.ntmps55
      go_wp2
      go_ret
      exact ⟨by simp [h0, h1], rfl⟩
    · have d1 : decide (x < (n : Int)) = false := by simpa using h1
      go_enter Try.func55, Try.ntmps55
      go_wp2
      go_ret
      exact ⟨by simp [h0, h1], rfl⟩
  · have d0 : decide (0 ≤ x) = false := by simpa using h0
    go_enter Try.func55, Try.ntmps55
    go_wp2
    go_ret
    exact ⟨by simp [h0], rfl⟩
theorem rhas_yes (x : Nat) {Fo : Nat → Option Obj} {base qb pb fb n : Nat} {room : Int} {srt : Bool} {ph fl : Nat → Int} {v : Value} {L : List Lt} (hx : x < n) (W : World) (h : RX Fo W base qb pb fb n room srt ph fl v L) : Calls Try.prog 55 #[.pointer (some ⟨qb, 0, none⟩), .int .i64 (x : Int)] W fun e W' => e = .returned (.bool true) ∧ W' = W := (rhas_any x W h).mono fun e W' hh => ⟨by rw [hh.1]; simp; omega, hh.2⟩
theorem rhas_no (x : Int) {Fo : Nat → Option Obj} {base qb pb fb n : Nat} {room : Int} {srt : Bool} {ph fl : Nat → Int} {v : Value} {L : List Lt} (hx : x < 0 ∨ (n : Int) ≤ x) (W : World) (h : RX Fo W base qb pb fb n room srt ph fl v L) : Calls Try.prog 55 #[.pointer (some ⟨qb, 0, none⟩), .int .i64 x] W fun e W' => e = .returned (.bool false) ∧ W' = W := (rhas_any x W h).mono fun e W' hh => ⟨by rw [hh.1]; simp; omega, hh.2⟩
set_option maxRecDepth 100000 in
theorem rph_yes (x : Nat) {Fo : Nat → Option Obj} {base qb pb fb n : Nat} {room : Int} {srt : Bool} {ph fl : Nat → Int} {v : Value} {L : List Lt} (hx : x < n) (W : World) (h : RX Fo W base qb pb fb n room srt ph fl v L) : Calls Try.prog 45 #[.pointer (some ⟨qb, 0, none⟩), .int .i64 (x : Int)] W fun e W' => e = .returned (.int .i64 (ph x)) ∧ W' = W := by
  have HK := rhas_yes x hx W h
  obtain ⟨c0, c1, c2, c3, c4, c5⟩ := h.cells
  have y := h.phc hx
  have i0 : (0 : Int) ≤ (x : Int) := by omega
  have i1 : (x : Int) < (n : Int) := by omega
  clear h hx
  go_enter Try.func45, Try.ntmps45
  go_wp2_with (go_at_call 55; (with_reducible refine HK.mono ?_); rintro e w1 ⟨rfl, h9⟩; subst h9)
  go_ret
  exact ⟨rfl, rfl⟩
set_option maxRecDepth 100000 in
theorem rph_no (x : Int) {Fo : Nat → Option Obj} {base qb pb fb n : Nat} {room : Int} {srt : Bool} {ph fl : Nat → Int} {v : Value} {L : List Lt} (hx : x < 0 ∨ (n : Int) ≤ x) (W : World) (h : RX Fo W base qb pb fb n room srt ph fl v L) : Calls Try.prog 45 #[.pointer (some ⟨qb, 0, none⟩), .int .i64 x] W fun e W' => e = .returned (.int .i64 (-1)) ∧ W' = W := by
  have HK := rhas_no x hx W h
  clear h hx
  go_enter Try.func45, Try.ntmps45
  go_wp2_with (go_at_call 55; (with_reducible refine HK.mono ?_); rintro e w1 ⟨rfl, h9⟩; subst h9)
  go_ret
  exact ⟨rfl, rfl⟩
set_option maxRecDepth 100000 in
theorem rer_yes (x : Nat) {Fo : Nat → Option Obj} {base qb pb fb n : Nat} {room : Int} {srt : Bool} {ph fl : Nat → Int} {v : Value} {L : List Lt} (hx : x < n) (W : World) (h : RX Fo W base qb pb fb n room srt ph fl v L) : Calls Try.prog 50 #[.pointer (some ⟨qb, 0, none⟩), .int .i64 (x : Int)] W fun e W' => e = .returned (.int .i64 (fl x)) ∧ W' = W := by
  have HK := rhas_yes x hx W h
  obtain ⟨c0, c1, c2, c3, c4, c5⟩ := h.cells
  have y := h.flc hx
  have i0 : (0 : Int) ≤ (x : Int) := by omega
  have i1 : (x : Int) < (n : Int) := by omega
  clear h hx
  go_enter Try.func50, Try.ntmps50
  go_wp2_with (go_at_call 55; (with_reducible refine HK.mono ?_); rintro e w1 ⟨rfl, h9⟩; subst h9)
  go_ret
  exact ⟨rfl, rfl⟩
set_option maxRecDepth 100000 in
theorem rer_no (x : Int) {Fo : Nat → Option Obj} {base qb pb fb n : Nat} {room : Int} {srt : Bool} {ph fl : Nat → Int} {v : Value} {L : List Lt} (hx : x < 0 ∨ (n : Int) ≤ x) (W : World) (h : RX Fo W base qb pb fb n room srt ph fl v L) : Calls Try.prog 50 #[.pointer (some ⟨qb, 0, none⟩), .int .i64 x] W fun e W' => e = .returned (.int .i64 91) ∧ W' = W := by
  have HK := rhas_no x hx W h
  clear h hx
  go_enter Try.func50, Try.ntmps50
  go_wp2_with (go_at_call 55; (with_reducible refine HK.mono ?_); rintro e w1 ⟨rfl, h9⟩; subst h9)
  go_ret
  exact ⟨rfl, rfl⟩
set_option maxRecDepth 100000 in
set_option maxHeartbeats 4000000 in
theorem rwaits_any (x : Nat) {Fo : Nat → Option Obj} {base qb pb fb n : Nat} {room : Int} {srt : Bool} {ph fl : Nat → Int} {v : Value} {L : List Lt} (hx : x < n) (hn : n ≤ 64) (W : World) (h : RX Fo W base qb pb fb n room srt ph fl v L) : Calls Try.prog 57 #[.pointer (some ⟨qb, 0, none⟩), .int .i64 (x : Int)] W fun e W' => ∃ b, e = .returned (.bool b) ∧ (b = true ↔ Low ph n x) ∧ Below W.heap.size W W' := by
  have HX := mhid h
  have i0 : (0 : Int) ≤ (x : Int) := by omega
  have i1 : (x : Int) < (n : Int) := by omega
  clear h
  go_enter Try.func57, Try.ntmps57
  go_wp2_with fail
  go_loopw [5] (fun y wr => ∃ j : Nat, y = .int .i64 (j : Int) ∧ j ≤ n ∧ (∀ i, i < j → ¬ ph i < ph x) ∧ Below W.heap.size W wr) (fun y _ => n - (intOf y).toNat)
  case atStart => exact ⟨0, rfl, Nat.zero_le _, fun i hi => by omega, Below.refl _ _⟩
  case round =>
    obtain ⟨j, rfl, hj, hall, hbr⟩ := hrel
    have HA := mhid (And.intro hall hbr)
    have hX := HX.out.later hbr
    obtain ⟨c0, c1, c2, c3, c4, c5⟩ := hX.cells
    by_cases hlt : j < n
    · have dl : decide ((j : Int) < (n : Int)) = true := by simp; omega
      have hm := meas hlt
      have ek : IntKind.i64.wrap ((j : Int) + 1) = (j : Int) + 1 := by rw [IntKind.wrap_i64]; omega
      have k0 : (0 : Int) ≤ (j : Int) := by omega
      have k1 : (j : Int) < (n : Int) := by omega
      have y0 := hX.phc hlt
      have y1 := hX.phc hx
      obtain ⟨pj, hpj⟩ : ∃ pj, ph j = pj := ⟨_, rfl⟩
      obtain ⟨px, hpx⟩ : ∃ px, ph x = px := ⟨_, rfl⟩
      rw [hpj] at y0
      rw [hpx] at y1
      have HP := mhid (And.intro hpj (And.intro hpx hlt))
      clear hpj hpx hX hall hbr hlt hj
      by_cases hl : pj < px
      · have d1 : decide (pj < px) = true := by simpa using hl
        have HY : Hid (Low ph n x) := ⟨j, HP.out.2.2, by rw [HP.out.1, HP.out.2.1]; exact hl⟩
        clear hl
        go_upto_region 4 with fail
        go_quiet (fail)
        go_wp2
        go_ret
        first | exact ⟨true, rfl, ⟨fun _ => HY.out, fun _ => rfl⟩, HA.out.2⟩ | exact .inr ⟨rfl, HY.out, HA.out.2⟩ | exact ⟨true, rfl, ⟨fun _ => HY.out, fun _ => rfl⟩, HA.out.2.trans ⟨rfl, rfl, rfl, Nat.le_refl _, fun _ _ => rfl⟩⟩ | exact .inr ⟨rfl, HY.out, HA.out.2.trans ⟨rfl, rfl, rfl, Nat.le_refl _, fun _ _ => rfl⟩⟩
      · have d1 : decide (pj < px) = false := by simpa using hl
        have HNL := mhid hl
        clear hl
        go_upto_region 4 with fail
        go_quiet (fail)
        go_wp2
        have hnext : ∀ i, i < j + 1 → ¬ ph i < ph x := fun i hi => by
          by_cases e : i = j
          · rw [e, HP.out.1, HP.out.2.1]; exact HNL.out
          · exact HA.out.1 i (by omega)
        first | exact ⟨⟨j + 1, rfl, HP.out.2.2, hnext, HA.out.2⟩, hm⟩ | exact ⟨⟨j + 1, rfl, HP.out.2.2, hnext, HA.out.2.trans ⟨rfl, rfl, rfl, Nat.le_refl _, fun _ _ => rfl⟩⟩, hm⟩
    · have dl : decide ((j : Int) < (n : Int)) = false := by simp; omega
      obtain rfl : n = j := by omega
      clear hX hj hlt
      have hno : ¬ Low ph n x := fun ⟨i, h1, h2⟩ => HA.out.1 i h1 h2
      have HNO := mhid hno
      clear hno hall hbr
      go_wp2
      go_ret
      first | exact ⟨false, rfl, ⟨fun e => (by cases e), fun h9 => absurd h9 HNO.out⟩, HA.out.2⟩ | exact .inl ⟨rfl, HNO.out, HA.out.2⟩
end Go.Proofs.Ytkfjcbnhohipgaa
