import Derived.Test.YtkfjcbnhohipgaaMD1
import Derived.BigQuiet
import Derived.Deep.RegionLaw
import Derived.Deep.RegionHeld3
import Derived.Deep.Cut
import Derived.Deep.DeepCutAuto
import Derived.Deep.CutBlock
import Derived.Deep.CutRange
import Derived.Deep.AppendLies
import Derived.Handy
import Derived.Lib.RabinKarpLaws
namespace Go.Proofs.Ytkfjcbnhohipgaa
open Go.ChangeShapes Go.WideShapes Go.ChangeAt Go.RowKit
set_option linter.unusedVariables false
set_option linter.unusedSimpArgs false


def cm (a b c : Int) (l : Lt) : Bool := (decide (a < 0) || ((l.f : Int) == a)) && (decide (b < 0) || ((l.t : Int) == b)) && ((c == -1) || (l.p == c))
theorem take_countP (q : Lt → Bool) (L : List Lt) (j : Nat) (hj : j < L.length) : (L.take (j + 1)).countP q = (L.take j).countP q + (if q (L.getD j lt0) then 1 else 0) := by
  rw [List.take_add_one, List.countP_append, List.getElem?_eq_getElem hj, List.getD_eq_getElem?_getD, List.getElem?_eq_getElem hj]
  simp [List.countP_cons]
theorem countP_le (q : Lt → Bool) (L : List Lt) (j : Nat) : (L.take j).countP q ≤ L.length := Nat.le_trans List.countP_le_length (List.length_take_le' _ _)
set_option maxRecDepth 100000 in
set_option maxHeartbeats 8000000 in
theorem rcount_any (a b c : Int) {Fo : Nat → Option Obj} {base qb pb fb n : Nat} {room : Int} {srt : Bool} {ph fl : Nat → Int} {v : Value} {L : List Lt} (hL : L.length ≤ 1000000) (W : World) (h : RX Fo W base qb pb fb n room srt ph fl v L) : Calls Try.prog 56 #[.pointer (some ⟨qb, 0, none⟩), .int .i64 a, .int .i64 b, .int .i64 c] W fun e W' => e = .returned (.int .i64 ((L.countP (cm a b c) : Nat) : Int)) ∧ Below W.heap.size W W' := by
  have HX := mhid h
  clear h
  obtain ⟨m, hm0⟩ : ∃ m, L.length = m := ⟨_, rfl⟩
  have HML := mhid hm0
  obtain ⟨q, cp, hv⟩ : ∃ q cp, v = .slice q m cp := by
    rcases HX.out.l.form with ⟨h1, h2⟩ | ⟨g, c, h1, _⟩
    · exact ⟨none, 0, by rw [h1, ← hm0, h2]⟩
    · exact ⟨_, _, by rw [h1, ← hm0]⟩
  subst hv
  rw [hm0] at hL
  clear hm0
  go_enter Try.func56, Try.ntmps56
  go_wp2_with fail
  go_loopw [9, 10] (fun s y wr => ∃ j : Nat, y = .int .i64 (j : Int) ∧ j ≤ m ∧ s = .int .i64 (((L.take j).countP (cm a b c) : Nat) : Int) ∧ Below W.heap.size W wr) (fun _ y _ => m - (intOf y).toNat)
  case atStart => exact ⟨0, rfl, Nat.zero_le _, by simp, Below.refl _ _⟩
  case round =>
    obtain ⟨j, rfl, hj, rfl, hbr⟩ := hrel
    have HB := mhid hbr
    have hX := HX.out.later hbr
    obtain ⟨c0, c1, c2, c3, c4, c5⟩ := hX.cells
    by_cases hlt : j < m
    · have dl : decide ((j : Int) < (m : Int)) = true := by simp; omega
      have hm := meas hlt
      have ek : IntKind.i64.wrap ((j : Int) + 1) = (j : Int) + 1 := by rw [IntKind.wrap_i64]; omega
      have k0 : (0 : Int) ≤ (j : Int) := by omega
      have k1 : (j : Int) < (m : Int) := by omega
      have hnx := take_countP (cm a b c) L j (by rw [HML.out]; exact hlt)
      have hcl := countP_le (cm a b c) L j
      rw [HML.out] at hcl
      obtain ⟨s, hs⟩ : ∃ s, (L.take j).countP (cm a b c) = s := ⟨_, rfl⟩
      rw [hs] at hnx hcl ⊢
      have es : IntKind.i64.wrap ((s : Int) + 1) = ((s + 1 : Nat) : Int) := by rw [IntKind.wrap_i64]; omega
      have hl := hX.l
      rw [HML.out] at hl
      rcases hl.form with ⟨h1, h2⟩ | ⟨g, c', h1, _⟩
      · omega
      injection h1 with h1 _ _
      subst h1
      obtain ⟨y0, y1, y2, y3, y4⟩ := ltc hl hlt
      obtain ⟨⟨lf, lt, lp, lk, lm⟩, hlx⟩ : ∃ l, L.getD j lt0 = l := ⟨_, rfl⟩
      rw [hlx] at y0 y1 y2 y3 y4 hnx
      simp only at y0 y1 y2 y3 y4
      have HNX := mhid hnx
      have HLT := mhid hlt
      clear hbr hX hlt hj hnx hcl hs hl hlx
      go_upto_region 6 with fail
      clear y0 y1 y2 y3 y4 c0 c1 c2 c3 c4 c5
      obtain ⟨wz, hwz⟩ : ∃ wz, wr.alloc (.cells #[.int .i64 (lf : Int), .int .i64 (lt : Int), .int .i64 lp, .int .i64 lk, .int .i64 lm] 110) = wz := ⟨_, rfl⟩
      rw [hwz]
      have hnew : wz.heap[wr.heap.size]? = some (.cells #[.int .i64 (lf : Int), .int .i64 (lt : Int), .int .i64 lp, .int .i64 lk, .int .i64 lm] 110 (0, 0)) := by rw [← hwz]; exact World.alloc_heap_new wr _
      have HZ : Hid (Below W.heap.size W wz) := by rw [← hwz]; exact HB.out.alloc HB.out.size _
      have z0 : wz.cell? ⟨wr.heap.size, 0, none⟩ = some (.int .i64 (lf : Int)) := by unfold World.cell?; rw [hnew]; rfl
      have z1 : wz.cell? ⟨wr.heap.size, 1, none⟩ = some (.int .i64 (lt : Int)) := by unfold World.cell?; rw [hnew]; rfl
      have z2 : wz.cell? ⟨wr.heap.size, 2, none⟩ = some (.int .i64 lp) := by unfold World.cell?; rw [hnew]; rfl
      clear hwz hnew
      by_cases u0 : a < 0
      · have f0 : decide (a < 0) = true := by simpa using u0
        by_cases u1 : b < 0
        · have f1 : decide (b < 0) = true := by simpa using u1
          by_cases u2 : c = -1
          · have f2 : (c == -1) = true := by simpa using u2
            have HQ : Hid (cm a b c ⟨lf, lt, lp, lk, lm⟩ = true) := by show cm a b c ⟨lf, lt, lp, lk, lm⟩ = true; unfold cm; simp [*]
            go_wp2_with fail
            refine ⟨⟨j + 1, rfl, HLT.out, ?_, HZ.out⟩, hm⟩
            rw [HNX.out, HQ.out]
            rfl
          · have f2 : (c == -1) = false := by simpa using u2
            by_cases v2 : lp = c
            · have g2 : (lp == c) = true := by simpa using v2
              have HQ : Hid (cm a b c ⟨lf, lt, lp, lk, lm⟩ = true) := by show cm a b c ⟨lf, lt, lp, lk, lm⟩ = true; unfold cm; simp [*]
              go_wp2_with fail
              refine ⟨⟨j + 1, rfl, HLT.out, ?_, HZ.out⟩, hm⟩
              rw [HNX.out, HQ.out]
              rfl
            · have g2 : (lp == c) = false := by simpa using v2
              have HQ : Hid (cm a b c ⟨lf, lt, lp, lk, lm⟩ = false) := by show cm a b c ⟨lf, lt, lp, lk, lm⟩ = false; unfold cm; simp [*]
              go_wp2_with fail
              refine ⟨⟨j + 1, rfl, HLT.out, ?_, HZ.out⟩, hm⟩
              rw [HNX.out, HQ.out]
              rfl
        · have f1 : decide (b < 0) = false := by simpa using u1
          by_cases v1 : (lt : Int) = b
          · have g1 : ((lt : Int) == b) = true := by simpa using v1
            by_cases u2 : c = -1
            · have f2 : (c == -1) = true := by simpa using u2
              have HQ : Hid (cm a b c ⟨lf, lt, lp, lk, lm⟩ = true) := by show cm a b c ⟨lf, lt, lp, lk, lm⟩ = true; unfold cm; simp [*]
              go_wp2_with fail
              refine ⟨⟨j + 1, rfl, HLT.out, ?_, HZ.out⟩, hm⟩
              rw [HNX.out, HQ.out]
              rfl
            · have f2 : (c == -1) = false := by simpa using u2
              by_cases v2 : lp = c
              · have g2 : (lp == c) = true := by simpa using v2
                have HQ : Hid (cm a b c ⟨lf, lt, lp, lk, lm⟩ = true) := by show cm a b c ⟨lf, lt, lp, lk, lm⟩ = true; unfold cm; simp [*]
                go_wp2_with fail
                refine ⟨⟨j + 1, rfl, HLT.out, ?_, HZ.out⟩, hm⟩
                rw [HNX.out, HQ.out]
                rfl
              · have g2 : (lp == c) = false := by simpa using v2
                have HQ : Hid (cm a b c ⟨lf, lt, lp, lk, lm⟩ = false) := by show cm a b c ⟨lf, lt, lp, lk, lm⟩ = false; unfold cm; simp [*]
                go_wp2_with fail
                refine ⟨⟨j + 1, rfl, HLT.out, ?_, HZ.out⟩, hm⟩
                rw [HNX.out, HQ.out]
                rfl
          · have g1 : ((lt : Int) == b) = false := by simpa using v1
            have HQ : Hid (cm a b c ⟨lf, lt, lp, lk, lm⟩ = false) := by show cm a b c ⟨lf, lt, lp, lk, lm⟩ = false; unfold cm; simp [*]
            go_wp2_with fail
            refine ⟨⟨j + 1, rfl, HLT.out, ?_, HZ.out⟩, hm⟩
            rw [HNX.out, HQ.out]
            rfl
      · have f0 : decide (a < 0) = false := by simpa using u0
        by_cases v0 : (lf : Int) = a
        · have g0 : ((lf : Int) == a) = true := by simpa using v0
          by_cases u1 : b < 0
          · have f1 : decide (b < 0) = true := by simpa using u1
            by_cases u2 : c = -1
            · have f2 : (c == -1) = true := by simpa using u2
              have HQ : Hid (cm a b c ⟨lf, lt, lp, lk, lm⟩ = true) := by show cm a b c ⟨lf, lt, lp, lk, lm⟩ = true; unfold cm; simp [*]
              go_wp2_with fail
              refine ⟨⟨j + 1, rfl, HLT.out, ?_, HZ.out⟩, hm⟩
              rw [HNX.out, HQ.out]
              rfl
            · have f2 : (c == -1) = false := by simpa using u2
              by_cases v2 : lp = c
              · have g2 : (lp == c) = true := by simpa using v2
                have HQ : Hid (cm a b c ⟨lf, lt, lp, lk, lm⟩ = true) := by show cm a b c ⟨lf, lt, lp, lk, lm⟩ = true; unfold cm; simp [*]
                go_wp2_with fail
                refine ⟨⟨j + 1, rfl, HLT.out, ?_, HZ.out⟩, hm⟩
                rw [HNX.out, HQ.out]
                rfl
              · have g2 : (lp == c) = false := by simpa using v2
                have HQ : Hid (cm a b c ⟨lf, lt, lp, lk, lm⟩ = false) := by show cm a b c ⟨lf, lt, lp, lk, lm⟩ = false; unfold cm; simp [*]
                go_wp2_with fail
                refine ⟨⟨j + 1, rfl, HLT.out, ?_, HZ.out⟩, hm⟩
                rw [HNX.out, HQ.out]
                rfl
          · have f1 : decide (b < 0) = false := by simpa using u1
            by_cases v1 : (lt : Int) = b
            · have g1 : ((lt : Int) == b) = true := by simpa using v1
              by_cases u2 : c = -1
              · have f2 : (c == -1) = true := by simpa using u2
                have HQ : Hid (cm a b c ⟨lf, lt, lp, lk, lm⟩ = true) := by show cm a b c ⟨lf, lt, lp, lk, lm⟩ = true; unfold cm; simp [*]
                go_wp2_with fail
                refine ⟨⟨j + 1, rfl, HLT.out, ?_, HZ.out⟩, hm⟩
                rw [HNX.out, HQ.out]
                rfl
              · have f2 : (c == -1) = false := by simpa using u2
                by_cases v2 : lp = c
                · have g2 : (lp == c) = true := by simpa using v2
                  have HQ : Hid (cm a b c ⟨lf, lt, lp, lk, lm⟩ = true) := by show cm a b c ⟨lf, lt, lp, lk, lm⟩ = true; unfold cm; simp [*]
                  go_wp2_with fail
                  refine ⟨⟨j + 1, rfl, HLT.out, ?_, HZ.out⟩, hm⟩
                  rw [HNX.out, HQ.out]
                  rfl
                · have g2 : (lp == c) = false := by simpa using v2
                  have HQ : Hid (cm a b c ⟨lf, lt, lp, lk, lm⟩ = false) := by show cm a b c ⟨lf, lt, lp, lk, lm⟩ = false; unfold cm; simp [*]
                  go_wp2_with fail
                  refine ⟨⟨j + 1, rfl, HLT.out, ?_, HZ.out⟩, hm⟩
                  rw [HNX.out, HQ.out]
                  rfl
            · have g1 : ((lt : Int) == b) = false := by simpa using v1
              have HQ : Hid (cm a b c ⟨lf, lt, lp, lk, lm⟩ = false) := by show cm a b c ⟨lf, lt, lp, lk, lm⟩ = false; unfold cm; simp [*]
              go_wp2_with fail
              refine ⟨⟨j + 1, rfl, HLT.out, ?_, HZ.out⟩, hm⟩
              rw [HNX.out, HQ.out]
              rfl
        · have g0 : ((lf : Int) == a) = false := by simpa using v0
          have HQ : Hid (cm a b c ⟨lf, lt, lp, lk, lm⟩ = false) := by show cm a b c ⟨lf, lt, lp, lk, lm⟩ = false; unfold cm; simp [*]
          go_wp2_with fail
          refine ⟨⟨j + 1, rfl, HLT.out, ?_, HZ.out⟩, hm⟩
          rw [HNX.out, HQ.out]
          rfl
    · have dl : decide ((j : Int) < (m : Int)) = false := by simp; omega
      obtain rfl : m = j := by omega
      clear hX hj hlt hbr
      have ht : L.take m = L := by rw [← HML.out]; exact List.take_length
      rw [ht]
      clear ht
      go_wp2_with fail
      go_ret
      exact ⟨rfl, HB.out⟩
set_option maxRecDepth 100000 in
theorem rwt_yes (x : Nat) {Fo : Nat → Option Obj} {base qb pb fb n : Nat} {room : Int} {srt : Bool} {ph fl : Nat → Int} {v : Value} {L : List Lt} (hx : x < n) (hL : L.length ≤ 1000000) (W : World) (h : RX Fo W base qb pb fb n room srt ph fl v L) : Calls Try.prog 49 #[.pointer (some ⟨qb, 0, none⟩), .int .i64 (x : Int)] W fun e W' => e = .returned (.tuple #[.int .i64 ((L.countP (cm (-1) x (-1)) : Nat) : Int), .int .i64 0]) ∧ Below W.heap.size W W' := by
  have HK := rhas_yes x hx W h
  have HC := rcount_any (-1) x (-1) hL W h
  clear h hx
  go_enter Try.func49, Try.ntmps49
  go_wp2_with (first | (go_at_call 55; (with_reducible refine HK.mono ?_); rintro e w1 ⟨rfl, h9⟩; subst h9) | (go_at_call 56; (with_reducible refine HC.mono ?_); rintro e w2 ⟨rfl, h8⟩))
  exact bodyPost_ret (v := .tuple #[.int .i64 ((L.countP (cm (-1) x (-1)) : Nat) : Int), .int .i64 0]) (by simp [results, Try.results49, go_sem]) rfl ⟨rfl, h8⟩
set_option maxRecDepth 100000 in
theorem rwt_no (x : Int) {Fo : Nat → Option Obj} {base qb pb fb n : Nat} {room : Int} {srt : Bool} {ph fl : Nat → Int} {v : Value} {L : List Lt} (hx : x < 0 ∨ (n : Int) ≤ x) (W : World) (h : RX Fo W base qb pb fb n room srt ph fl v L) : Calls Try.prog 49 #[.pointer (some ⟨qb, 0, none⟩), .int .i64 x] W fun e W' => e = .returned (.tuple #[.int .i64 0, .int .i64 91]) ∧ W' = W := by
  have HK := rhas_no x hx W h
  clear h hx
  go_enter Try.func49, Try.ntmps49
  go_wp2_with (go_at_call 55; (with_reducible refine HK.mono ?_); rintro e w1 ⟨rfl, h9⟩; subst h9)
  exact bodyPost_ret (v := .tuple #[.int .i64 0, .int .i64 91]) (by simp [results, Try.results49, go_sem]) rfl ⟨rfl, rfl⟩
end Go.Proofs.Ytkfjcbnhohipgaa
