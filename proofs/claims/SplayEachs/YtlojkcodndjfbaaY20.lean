import Derived.Test.YtlojkcodndjfbaaY18
namespace Go.Proofs.Ytlojkcodndjfbaa
open Go.ChangeShapes Go.WideShapes Go.ChangeAt Go.RowKit
set_option linter.unusedVariables false
set_option linter.unusedSimpArgs false

/-- events that come in -/
def EvIn (W : World) (p : Option Addr) (N : Nat) (X : Nat → Ev) : Prop := N = 0 ∨ ∃ b o, p = some ⟨b, o, none⟩ ∧ b < W.heap.size ∧ ∀ i r, i < N → r < 6 → W.cell? ⟨b, o + i * 6 + r, none⟩ = some (evC (X i) r)
/-- what a queue filled with X 0 .. X (M - 1) holds -/
def FillOk (X : Nat → Ev) (M : Nat) (L : List Ev) : Prop := L.length ≤ M ∧ (∀ i, i < M → ∃ x ∈ L, cmpE (X i).t (X i).s (X i).q x = 0) ∧ ∀ x ∈ L, ∃ i, i < M ∧ x = X i
theorem keyCmp_self (t s q : Int) : keyCmp t s q t s q = 0 := by
  rw [keyCmp_eq]
  exact ⟨rfl, rfl, rfl⟩
theorem FillOk.twin {X : Nat → Ev} {M : Nat} {L : List Ev} (h : FillOk X M L) (h2 : ∃ x ∈ L, cmpE (X M).t (X M).s (X M).q x = 0) : FillOk X (M + 1) L := by
  refine ⟨by have := h.1; omega, fun i hi => ?_, fun x hx => ?_⟩
  · by_cases h9 : i < M
    · exact h.2.1 i h9
    · obtain rfl : i = M := by omega
      exact h2
  · obtain ⟨i, hi, e⟩ := h.2.2 x hx
    exact ⟨i, by omega, e⟩
theorem FillOk.put {X : Nat → Ev} {M : Nat} {L L' : List Ev} (h : FillOk X M L) (hl : L'.length = L.length + 1) (h2 : ∀ x, x ∈ L' ↔ x = X M ∨ x ∈ L) : FillOk X (M + 1) L' := by
  refine ⟨by have := h.1; omega, fun i hi => ?_, fun x hx => ?_⟩
  · by_cases h9 : i < M
    · obtain ⟨x, hx, e⟩ := h.2.1 i h9
      exact ⟨x, (h2 x).2 (.inr hx), e⟩
    · obtain rfl : i = M := by omega
      exact ⟨X i, (h2 _).2 (.inl rfl), keyCmp_self _ _ _⟩
  · rcases (h2 x).1 hx with h9 | h9
    · exact ⟨M, by omega, h9⟩
    · obtain ⟨i, hi, e⟩ := h.2.2 x h9
      exact ⟨i, by omega, e⟩
/-- what Insert did, full aside -/
theorem insTwo {base qb g : Nat} {room wb : Int} {L : List Ev} {e : Ev} {W W' : World} {code : Int} (h : InsR base qb g room wb L e W code W') (h1 : (L.length : Int) ≠ room) : ∃ g' L', QS base qb g' room (wb + 8192) L' W' ∧ (g' = g ∨ W.heap.size ≤ g') ∧ Ch (S2 qb g) W W' ∧ (code = 81 ∧ L' = L ∧ (∃ x ∈ L, cmpE e.t e.s e.q x = 0) ∨ code = 0 ∧ L'.length = L.length + 1 ∧ ∀ x, x ∈ L' ↔ x = e ∨ x ∈ L) := by
  obtain ⟨g', hc, hg, hC⟩ := h
  rcases hc with ⟨h3, _⟩ | ⟨_, h3, h4, h5⟩ | ⟨_, _, h4, L', h5, h6, h7⟩
  · exact absurd h3 h1
  · exact ⟨g', L, h5, hg, hC, .inl ⟨h4, rfl, h3⟩⟩
  · exact ⟨g', L', h5, hg, hC, .inr ⟨h4, h6, h7⟩⟩
set_option maxRecDepth 100000 in
set_option maxHeartbeats 8000000 in
theorem filled_any (p : Option Addr) (N c : Nat) (X : Nat → Ev) (W : World) (hk : EvIn W p N X) (hc : N ≤ c) (hN : N ≤ 1000000000000000000) :
    Calls Try.prog 5 #[.slice p N c] W fun e W' => ∃ (qb g M : Nat) (L : List Ev), e = .returned (.tuple #[.pointer (some ⟨qb, 0, none⟩), .bool true]) ∧ QS W.heap.size qb g ((M : Int) + 1) (8192 * (M : Int)) L W' ∧ M ≤ 4000 ∧ M ≤ N ∧ (N ≤ 4000 → M = N) ∧ FillOk X M L ∧ Below W.heap.size W W' := by
  by_cases hb : 4000 < N
  · obtain ⟨b, o, hp, hbl, hcells⟩ : ∃ b o, p = some ⟨b, o, none⟩ ∧ b < W.heap.size ∧ ∀ i r, i < N → r < 6 → W.cell? ⟨b, o + i * 6 + r, none⟩ = some (evC (X i) r) := by
      rcases hk with h9 | h9
      · omega
      · exact h9
    subst hp
    have hcs : ∀ i r, i < 4000 → r < 6 → W.cell? ⟨b, o + i * 6 + r, none⟩ = some (evC (X i) r) := fun i r hi => hcells i r (by omega)
    have d0 : decide ((4000 : Int) < (N : Int)) = true := by simp; omega
    have s1 : (4000 : Int) ≤ (c : Int) := by omega
    have hM1 : (4000 : Nat) ≤ 4000 := Nat.le_refl _
    have hM2 : (4000 : Nat) ≤ N := by omega
    clear hcells hk hN
    have HN := q_new 4001 (by decide) (by decide) W
    go_enter Try.func5, Try.ntmps5
    go_upto_region 3 with fail
    go_wp2_with (go_at_call 11; (with_reducible refine HN.mono ?_); rintro e w1 ⟨qb, nb, rfl, hq, hO, hne, hqs, hb1⟩; have HQ : Hid (QS W.heap.size qb nb 4001 0 [] w1) := new_QS hq hO hne hqs ⟨by omega, by omega⟩; clear hq hO)
    go_loopw [6] (fun x wr => ∃ (i g : Nat) (L : List Ev), x = .int .i64 (i : Int) ∧ i ≤ 4000 ∧ QS W.heap.size qb g 4001 (8192 * (i : Int)) L wr ∧ FillOk X i L ∧ Below W.heap.size W wr) (fun x _ => 4000 - (intOf x).toNat)
    case atStart => exact ⟨0, nb, [], rfl, Nat.zero_le _, HQ.out, ⟨Nat.le_refl _, fun i hi => absurd hi (Nat.not_lt_zero _), fun x hx => (by cases hx)⟩, hb1⟩
    case round =>
      obtain ⟨i, g, L, rfl, hiM, hQ, hF, hbr⟩ := hrel
      have HQ0 : Hid (QS W.heap.size qb g 4001 (8192 * (i : Int)) L wr) := hQ
      have HF : Hid (FillOk X i L) := hF
      clear HQ hQ hF
      by_cases hlt : i < 4000
      · have dl : decide ((i : Int) < (4000 : Int)) = true := by simp; omega
        have i0 : (0 : Int) ≤ (i : Int) := by omega
        have i1 : (i : Int) < (4000 : Int) := by omega
        have x0 : wr.cell? ⟨b, o + i * 6, none⟩ = some (.int .u64 (X i).t) := (cell_below (a := ⟨b, o + i * 6, none⟩) hbr hbl).trans (hcs i 0 hlt (by decide))
        have x1 : wr.cell? ⟨b, o + i * 6 + 1, none⟩ = some (.int .i64 (X i).s) := (cell_below (a := ⟨b, o + i * 6 + 1, none⟩) hbr hbl).trans (hcs i 1 hlt (by decide))
        have x2 : wr.cell? ⟨b, o + i * 6 + 2, none⟩ = some (.int .u64 (X i).q) := (cell_below (a := ⟨b, o + i * 6 + 2, none⟩) hbr hbl).trans (hcs i 2 hlt (by decide))
        have x3 : wr.cell? ⟨b, o + i * 6 + 3, none⟩ = some (.int .i64 (X i).d) := (cell_below (a := ⟨b, o + i * 6 + 3, none⟩) hbr hbl).trans (hcs i 3 hlt (by decide))
        have x4 : wr.cell? ⟨b, o + i * 6 + 4, none⟩ = some (.int .i64 (X i).k) := (cell_below (a := ⟨b, o + i * 6 + 4, none⟩) hbr hbl).trans (hcs i 4 hlt (by decide))
        have x5 : wr.cell? ⟨b, o + i * 6 + 5, none⟩ = some (.int .i64 (X i).v) := (cell_below (a := ⟨b, o + i * 6 + 5, none⟩) hbr hbl).trans (hcs i 5 hlt (by decide))
        have ei : IntKind.i64.wrap ((i : Int) + 1) = (i : Int) + 1 := by rw [IntKind.wrap_i64]; omega
        have HI := ins_any (X i) wr HQ0.out (by omega)
        unfold evV at HI
        go_upto_region 10 with (go_at_call 7; (with_reducible refine HI.mono ?_); rintro e w3 ⟨code, rfl, hI⟩; obtain ⟨g3, L3, hQ3, hg3, hC3, hcode⟩ := insTwo hI (by have := HF.out.1; omega); have HQ3 : Hid (QS W.heap.size qb g3 4001 (8192 * (i : Int) + 8192) L3 w3) := hQ3; clear hI hQ3)
        have hF3 : FillOk X (i + 1) L3 := by
          rcases hcode with ⟨_, h8, h9⟩ | ⟨_, h8, h9⟩
          · rw [h8]; exact HF.out.twin h9
          · exact HF.out.put h8 h9
        have hB3 : Below W.heap.size W w3 := by
          have hl2 := HQ0.out.lt
          exact hbr.trans (hC3.toBelow hbr.size (by rintro k (rfl | rfl); exact hl2.1.2; exact hl2.2.2))
        have hcc : code = 81 ∨ code = 0 := by
          rcases hcode with ⟨h8, _⟩ | ⟨h8, _⟩
          · exact .inl h8
          · exact .inr h8
        have HF3 : Hid (FillOk X (i + 1) L3) := hF3
        clear hcode hF3 hC3 x0 x1 x2 x3 x4 x5 HI
        rcases hcc with h8 | h8
        · subst h8
          go_wp2_with fail
          exact ⟨⟨i + 1, g3, L3, rfl, hlt, HQ3.out.up (by omega), HF3.out, hB3⟩, meas hlt⟩
        · subst h8
          go_wp2_with fail
          exact ⟨⟨i + 1, g3, L3, rfl, hlt, HQ3.out.up (by omega), HF3.out, hB3⟩, meas hlt⟩
      · have dl : decide ((i : Int) < (4000 : Int)) = false := by simp; omega
        have him : i = 4000 := by omega
        have HS := size_any wr HQ0.out
        obtain ⟨x9, hx9, _⟩ := HF.out.2.1 0 (by omega)
        have hLp : 0 < L.length := List.length_pos_of_mem hx9
        have HLP : Hid (0 < L.length) := hLp
        clear hLp
        go_wp2_with (go_at_call 23; (with_reducible refine HS.mono ?_); rintro e w9 ⟨rfl, h9⟩; subst h9)
        have hLp := HLP.out
        refine bodyPost_ret (v := .tuple #[.pointer (some ⟨qb, 0, none⟩), .bool true]) (by simp [results, Try.results5, go_sem]; first | exact hLp | exact .inr hLp) rfl ?_
        exact ⟨qb, g, 4000, L, rfl, HQ0.out.up (by omega), hM1, hM2, (fun _ => by omega), (by have h9 := HF.out; rw [him] at h9; exact h9), hbr⟩
  · have d0 : decide ((4000 : Int) < (N : Int)) = false := by simp; omega
    have eN : IntKind.i64.wrap ((N : Int) + 1) = (N : Int) + 1 := by rw [IntKind.wrap_i64]; omega
    have HN := q_new ((N : Int) + 1) (by omega) (by omega) W
    have hM1 : N ≤ 4000 := by omega
    have hM2 : N ≤ N := Nat.le_refl _
    clear hN hb
    rcases Nat.eq_zero_or_pos N with hz | hz
    · subst hz
      clear hk eN HN
      have HN := q_new 1 (by decide) (by decide) W
      go_enter Try.func5, Try.ntmps5
      go_upto_region 3 with fail
      go_wp2_with (go_at_call 11; (with_reducible refine HN.mono ?_); rintro e w1 ⟨qb, nb, rfl, hq, hO, hne, hqs, hb1⟩; have HQ : Hid (QS W.heap.size qb nb 1 0 [] w1) := new_QS hq hO hne hqs ⟨by omega, by omega⟩; clear hq hO)
      go_loopw [6] (fun x wr => x = .int .i64 0 ∧ wr = w1) (fun x _ => 0)
      case atStart => exact ⟨rfl, rfl⟩
      case round =>
        obtain ⟨rfl, rfl⟩ := hrel
        go_wp2_with fail
        refine bodyPost_ret (v := .tuple #[.pointer (some ⟨qb, 0, none⟩), .bool true]) (by simp [results, Try.results5, go_sem]) rfl ?_
        exact ⟨qb, nb, 0, [], rfl, HQ.out, by omega, by omega, fun _ => rfl, ⟨Nat.le_refl _, fun i hi => absurd hi (Nat.not_lt_zero _), fun x hx => (by cases hx)⟩, hb1⟩
    · obtain ⟨b, o, hp, hbl, hcs⟩ : ∃ b o, p = some ⟨b, o, none⟩ ∧ b < W.heap.size ∧ ∀ i r, i < N → r < 6 → W.cell? ⟨b, o + i * 6 + r, none⟩ = some (evC (X i) r) := by
        rcases hk with h9 | h9
        · omega
        · exact h9
      subst hp
      clear hk
      go_enter Try.func5, Try.ntmps5
      go_upto_region 3 with fail
      go_wp2_with (go_at_call 11; (with_reducible refine HN.mono ?_); rintro e w1 ⟨qb, nb, rfl, hq, hO, hne, hqs, hb1⟩; have HQ : Hid (QS W.heap.size qb nb ((N : Int) + 1) 0 [] w1) := new_QS hq hO hne hqs ⟨by omega, by omega⟩; clear hq hO)
      go_loopw [6] (fun x wr => ∃ (i g : Nat) (L : List Ev), x = .int .i64 (i : Int) ∧ i ≤ N ∧ QS W.heap.size qb g ((N : Int) + 1) (8192 * (i : Int)) L wr ∧ FillOk X i L ∧ Below W.heap.size W wr) (fun x _ => N - (intOf x).toNat)
      case atStart => exact ⟨0, nb, [], rfl, Nat.zero_le _, HQ.out, ⟨Nat.le_refl _, fun i hi => absurd hi (Nat.not_lt_zero _), fun x hx => (by cases hx)⟩, hb1⟩
      case round =>
        obtain ⟨i, g, L, rfl, hiM, hQ, hF, hbr⟩ := hrel
        have HQ0 : Hid (QS W.heap.size qb g ((N : Int) + 1) (8192 * (i : Int)) L wr) := hQ
        have HF : Hid (FillOk X i L) := hF
        clear HQ hQ hF
        by_cases hlt : i < N
        · have dl : decide ((i : Int) < (N : Int)) = true := by simp; omega
          have i0 : (0 : Int) ≤ (i : Int) := by omega
          have i1 : (i : Int) < (N : Int) := by omega
          have x0 : wr.cell? ⟨b, o + i * 6, none⟩ = some (.int .u64 (X i).t) := (cell_below (a := ⟨b, o + i * 6, none⟩) hbr hbl).trans (hcs i 0 hlt (by decide))
          have x1 : wr.cell? ⟨b, o + i * 6 + 1, none⟩ = some (.int .i64 (X i).s) := (cell_below (a := ⟨b, o + i * 6 + 1, none⟩) hbr hbl).trans (hcs i 1 hlt (by decide))
          have x2 : wr.cell? ⟨b, o + i * 6 + 2, none⟩ = some (.int .u64 (X i).q) := (cell_below (a := ⟨b, o + i * 6 + 2, none⟩) hbr hbl).trans (hcs i 2 hlt (by decide))
          have x3 : wr.cell? ⟨b, o + i * 6 + 3, none⟩ = some (.int .i64 (X i).d) := (cell_below (a := ⟨b, o + i * 6 + 3, none⟩) hbr hbl).trans (hcs i 3 hlt (by decide))
          have x4 : wr.cell? ⟨b, o + i * 6 + 4, none⟩ = some (.int .i64 (X i).k) := (cell_below (a := ⟨b, o + i * 6 + 4, none⟩) hbr hbl).trans (hcs i 4 hlt (by decide))
          have x5 : wr.cell? ⟨b, o + i * 6 + 5, none⟩ = some (.int .i64 (X i).v) := (cell_below (a := ⟨b, o + i * 6 + 5, none⟩) hbr hbl).trans (hcs i 5 hlt (by decide))
          have ei : IntKind.i64.wrap ((i : Int) + 1) = (i : Int) + 1 := by rw [IntKind.wrap_i64]; omega
          have HI := ins_any (X i) wr HQ0.out (by omega)
          unfold evV at HI
          go_upto_region 10 with (go_at_call 7; (with_reducible refine HI.mono ?_); rintro e w3 ⟨code, rfl, hI⟩; obtain ⟨g3, L3, hQ3, hg3, hC3, hcode⟩ := insTwo hI (by have := HF.out.1; omega); have HQ3 : Hid (QS W.heap.size qb g3 ((N : Int) + 1) (8192 * (i : Int) + 8192) L3 w3) := hQ3; clear hI hQ3)
          have hF3 : FillOk X (i + 1) L3 := by
            rcases hcode with ⟨_, h8, h9⟩ | ⟨_, h8, h9⟩
            · rw [h8]; exact HF.out.twin h9
            · exact HF.out.put h8 h9
          have hB3 : Below W.heap.size W w3 := by
            have hl2 := HQ0.out.lt
            exact hbr.trans (hC3.toBelow hbr.size (by rintro k (rfl | rfl); exact hl2.1.2; exact hl2.2.2))
          have hcc : code = 81 ∨ code = 0 := by
            rcases hcode with ⟨h8, _⟩ | ⟨h8, _⟩
            · exact .inl h8
            · exact .inr h8
          have HF3 : Hid (FillOk X (i + 1) L3) := hF3
          clear hcode hF3 hC3 x0 x1 x2 x3 x4 x5 HI
          rcases hcc with h8 | h8
          · subst h8
            go_wp2_with fail
            exact ⟨⟨i + 1, g3, L3, rfl, hlt, HQ3.out.up (by omega), HF3.out, hB3⟩, meas hlt⟩
          · subst h8
            go_wp2_with fail
            exact ⟨⟨i + 1, g3, L3, rfl, hlt, HQ3.out.up (by omega), HF3.out, hB3⟩, meas hlt⟩
        · have dl : decide ((i : Int) < (N : Int)) = false := by simp; omega
          have him : i = N := by omega
          have HS := size_any wr HQ0.out
          obtain ⟨x9, hx9, _⟩ := HF.out.2.1 0 (by omega)
          have hLp : 0 < L.length := List.length_pos_of_mem hx9
          have HLP : Hid (0 < L.length) := hLp
          clear hLp
          go_wp2_with (go_at_call 23; (with_reducible refine HS.mono ?_); rintro e w9 ⟨rfl, h9⟩; subst h9)
          have hLp := HLP.out
          refine bodyPost_ret (v := .tuple #[.pointer (some ⟨qb, 0, none⟩), .bool true]) (by simp [results, Try.results5, go_sem]; first | exact hLp | exact .inr hLp) rfl ?_
          exact ⟨qb, g, N, L, rfl, HQ0.out.up (by omega), hM1, hM2, (fun _ => by omega), (by have h9 := HF.out; rw [him] at h9; exact h9), hbr⟩
end Go.Proofs.Ytlojkcodndjfbaa
