import Derived.Test.YtkgifanlodlilaaSV6
namespace Go.Proofs.Ytkgifanlodlilaa
open Go.ChangeShapes Go.WideShapes Go.ChangeAt Go.RowKit
set_option linter.unusedVariables false
set_option linter.unusedSimpArgs false

set_option maxRecDepth 100000 in
set_option maxHeartbeats 4000000 in
theorem samePrograms_yes (p q : Option Addr) (n c d : Nat) (P : Nat → Pg) (V U : Nat → PgV) (hn : n ≤ 17592186044416) (hr : ∀ j, j < n → roomyP (P j)) (w : World) (h1 : PsAt w p n P V) (h2 : PsAt w q n P U) :
    Calls Try.prog 19 #[.slice p n c, .slice q n d] w fun e w' => e = .returned (.bool true) ∧ Below w.heap.size w w' := by
  have HH : Hid (PsAt w p n P V ∧ PsAt w q n P U ∧ ∀ j, j < n → roomyP (P j)) := ⟨h1, h2, hr⟩
  clear h1 h2 hr
  go_enter Try.func19, Try.ntmps19
  go_wp2
  go_loopw [13] (fun x wr => ∃ i : Nat, x = .int .i64 (i : Int) ∧ i ≤ n ∧ Below w.heap.size w wr) (fun x _ => n - (intOf x).toNat)
  case atStart => exact ⟨0, rfl, Nat.zero_le _, Below.refl _ _⟩
  case round =>
    obtain ⟨i, rfl, hi, hbr⟩ := hrel
    by_cases hlt : i < n
    · have dlt : decide ((i : Int) < (n : Int)) = true := by simp; omega
      have i0 : (0 : Int) ≤ (i : Int) := by omega
      have i1 : (i : Int) < (n : Int) := by omega
      have ei : IntKind.i64.wrap ((i : Int) + 1) = (i : Int) + 1 := by rw [IntKind.wrap_i64]; omega
      have hm := meas hlt
      obtain hz | ⟨g, o, rfl, hl, hc, hpa⟩ := HH.out.1.below hbr
      · omega
      obtain hz | ⟨g', o', rfl, hl', hc', hpa'⟩ := HH.out.2.1.below hbr
      · omega
      obtain ⟨x0, x1, x2, x3⟩ := hc i hlt
      obtain ⟨y0, y1, y2, y3⟩ := hc' i hlt
      have HS : ∀ w', Below wr.heap.size wr w' → Hid (Calls Try.prog 30 #[.agg #[.int .i64 (P i).words, .int .i64 (P i).locals, .slice (V i).cp (P i).n (V i).cc, .slice (V i).ep (P i).m (V i).ec], .agg #[.int .i64 (P i).words, .int .i64 (P i).locals, .slice (U i).cp (P i).n (U i).cc, .slice (U i).ep (P i).m (U i).ec]] w' fun e w9 => e = .returned (.bool true) ∧ Below wr.heap.size wr w9) := fun w' hb => by
        refine (sameProgram_yes (P i) (V i) (U i) w' ((hpa i hlt).below hb) ((hpa' i hlt).below hb) (HH.out.2.2 i hlt)).mono ?_
        rintro e w9 ⟨h1, h2⟩
        exact ⟨h1, hb.trans (h2.mono hb.size)⟩
      have HB : Hid (Below w.heap.size w wr) := hbr
      clear hc hc' hpa hpa' hl hl' hbr
      go_upto_region 6 with fail
      go_region_with (go_at_call 30; (with_reducible refine ((HS _ (Below.drew (Below.refl _ wr))).out).mono ?_); rintro e w1 ⟨rfl, hb1⟩)
      all_goals (try go_wp2)
      all_goals exact ⟨⟨i + 1, rfl, hlt, HB.out.trans (hb1.mono HB.out.size)⟩, hm⟩
    · have dlt : decide ((i : Int) < (n : Int)) = false := by simp; omega
      go_wp2_with fail
      go_ret
      exact ⟨rfl, hbr⟩
set_option maxRecDepth 100000 in
set_option maxHeartbeats 4000000 in
theorem sameParts_yes (p q : Option Addr) (n c d : Nat) (pr : Nat → Int) (nw : Nat → Nat) (K : Nat → Nat → Int) (wp up : Nat → Option Addr) (wc uc : Nat → Nat) (hn : n ≤ 17592186044416) (hr : ∀ j, j < n → nw j ≤ 17592186044416) (w : World) (h1 : TsAt w p n pr nw K wp wc) (h2 : TsAt w q n pr nw K up uc) :
    Calls Try.prog 20 #[.slice p n c, .slice q n d] w fun e w' => e = .returned (.bool true) ∧ Below w.heap.size w w' := by
  have HH : Hid (TsAt w p n pr nw K wp wc ∧ TsAt w q n pr nw K up uc ∧ ∀ j, j < n → nw j ≤ 17592186044416) := ⟨h1, h2, hr⟩
  clear h1 h2 hr
  go_enter Try.func20, Try.ntmps20
  go_wp2
  go_loopw [13] (fun x wr => ∃ i : Nat, x = .int .i64 (i : Int) ∧ i ≤ n ∧ Below w.heap.size w wr) (fun x _ => n - (intOf x).toNat)
  case atStart => exact ⟨0, rfl, Nat.zero_le _, Below.refl _ _⟩
  case round =>
    obtain ⟨i, rfl, hi, hbr⟩ := hrel
    by_cases hlt : i < n
    · have dlt : decide ((i : Int) < (n : Int)) = true := by simp; omega
      have i0 : (0 : Int) ≤ (i : Int) := by omega
      have i1 : (i : Int) < (n : Int) := by omega
      have ei : IntKind.i64.wrap ((i : Int) + 1) = (i : Int) + 1 := by rw [IntKind.wrap_i64]; omega
      have hm := meas hlt
      obtain hz | ⟨g, o, rfl, hl, hc, hpa⟩ := HH.out.1.below hbr
      · omega
      obtain hz | ⟨g', o', rfl, hl', hc', hpa'⟩ := HH.out.2.1.below hbr
      · omega
      obtain ⟨x0, x1⟩ := hc i hlt
      obtain ⟨y0, y1⟩ := hc' i hlt
      have hd := HH.out.2.2 i hlt
      have HS : ∀ w', Below wr.heap.size wr w' → Hid (Calls Try.prog 31 #[.slice (wp i) (nw i) (wc i), .slice (up i) (nw i) (uc i)] w' fun e w9 => e = .returned (.bool true) ∧ Below wr.heap.size wr w9) := fun w' hb => by
        have h9 := sameWords_any (wp i) (up i) (nw i) (nw i) (wc i) (uc i) (K i) (K i) hd w' ((hpa i hlt).below hb) ((hpa' i hlt).below hb)
        rw [decide_eq_true rfl, sameF_yes (fun _ _ => rfl)] at h9
        refine h9.mono ?_
        rintro e w9 ⟨h1, h2⟩
        exact ⟨h1, hb.trans (h2.mono hb.size)⟩
      have KK : ∀ w1, Below wr.heap.size wr w1 → Hid ((w1.cell? ⟨g, o + i * 2, none⟩ = some (.int .i64 (pr i)) ∧ w1.cell? ⟨g, o + i * 2 + 1, none⟩ = some (.slice (wp i) (nw i) (wc i))) ∧ w1.cell? ⟨g', o' + i * 2, none⟩ = some (.int .i64 (pr i)) ∧ w1.cell? ⟨g', o' + i * 2 + 1, none⟩ = some (.slice (up i) (nw i) (uc i))) := fun w1 hb => ⟨⟨(cell_below (a := ⟨g, o + i * 2, none⟩) hb hl).trans x0, (cell_below (a := ⟨g, o + i * 2 + 1, none⟩) hb hl).trans x1⟩, (cell_below (a := ⟨g', o' + i * 2, none⟩) hb hl').trans y0, (cell_below (a := ⟨g', o' + i * 2 + 1, none⟩) hb hl').trans y1⟩
      have HB : Hid (Below w.heap.size w wr) := hbr
      clear hc hc' hpa hpa' hl hl' hbr hd
      go_upto_region 6 with fail
      go_region_held3 (fun w' => (w'.cell? ⟨g, o + i * 2, none⟩ = some (.int .i64 (pr i)) ∧ w'.cell? ⟨g, o + i * 2 + 1, none⟩ = some (.slice (wp i) (nw i) (wc i))) ∧ w'.cell? ⟨g', o' + i * 2, none⟩ = some (.int .i64 (pr i)) ∧ w'.cell? ⟨g', o' + i * 2 + 1, none⟩ = some (.slice (up i) (nw i) (uc i))) (first | exact ⟨⟨x0, x1⟩, y0, y1⟩ | exact KP | go_keep) ((go_at_call 31; (with_reducible refine ((HS _ (Below.drew (Below.refl _ wr))).out).mono ?_); rintro e w1 ⟨rfl, hb1⟩; have KP := (KK w1 hb1).out))
      all_goals (try go_wp2)
      all_goals exact ⟨⟨i + 1, rfl, hlt, HB.out.trans (hb1.mono HB.out.size)⟩, hm⟩
    · have dlt : decide ((i : Int) < (n : Int)) = false := by simp; omega
      go_wp2_with fail
      go_ret
      exact ⟨rfl, hbr⟩
theorem neq_st (a b c d : Int) (W : World) : (binOp .neq 36 (.agg #[.int .u64 a, .int .i64 b, .int .i64 c, .int .i64 d]) (.agg #[.int .u64 a, .int .i64 b, .int .i64 c, .int .i64 d])).run Try.prog W = .ok (.bool false) W := by
  go_simp
set_option maxRecDepth 100000 in
set_option maxHeartbeats 2000000 in
theorem sameStarts_yes (p q : Option Addr) (n c d : Nat) (S : Nat → St) (hn : n ≤ 17592186044416) (w : World) (h1 : StAt w p n S) (h2 : StAt w q n S) :
    Calls Try.prog 21 #[.slice p n c, .slice q n d] w fun e w' => e = .returned (.bool true) ∧ Below w.heap.size w w' := by
  have HH : Hid (StAt w p n S ∧ StAt w q n S) := ⟨h1, h2⟩
  clear h1 h2
  go_enter Try.func21, Try.ntmps21
  go_wp2
  go_loopw [13] (fun x wr => ∃ i : Nat, x = .int .i64 (i : Int) ∧ i ≤ n ∧ Below w.heap.size w wr) (fun x _ => n - (intOf x).toNat)
  case atStart => exact ⟨0, rfl, Nat.zero_le _, Below.refl _ _⟩
  case round =>
    obtain ⟨i, rfl, hi, hbr⟩ := hrel
    by_cases hlt : i < n
    · have dlt : decide ((i : Int) < (n : Int)) = true := by simp; omega
      have i0 : (0 : Int) ≤ (i : Int) := by omega
      have i1 : (i : Int) < (n : Int) := by omega
      have ei : IntKind.i64.wrap ((i : Int) + 1) = (i : Int) + 1 := by rw [IntKind.wrap_i64]; omega
      have hm := meas hlt
      obtain hz | ⟨g, o, rfl, hl, hc⟩ := HH.out.1.below hbr
      · omega
      obtain hz | ⟨g', o', rfl, hl', hc'⟩ := HH.out.2.below hbr
      · omega
      obtain ⟨x0, x1, x2, x3⟩ := hc i hlt
      obtain ⟨y0, y1, y2, y3⟩ := hc' i hlt
      have ne1 := neq_st (S i).t (S i).d (S i).k (S i).v
      clear hc hc' hl hl'
      go_upto_region 6 with fail
      go_quiet (fail)
      go_wp2
      exact ⟨⟨i + 1, rfl, hlt, hbr.trans (below_drewNq _ _ _)⟩, hm⟩
    · have dlt : decide ((i : Int) < (n : Int)) = false := by simp; omega
      go_wp2_with fail
      go_ret
      exact ⟨rfl, hbr⟩
end Go.Proofs.Ytkgifanlodlilaa
