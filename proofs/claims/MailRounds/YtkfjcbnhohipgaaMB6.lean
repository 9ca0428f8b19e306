import Derived.Test.YtkfjcbnhohipgaaMB5
import Derived.BigQuiet
import Derived.Deep.RegionLaw
import Derived.Deep.RegionHeld3
import Derived.Deep.Cut
import Derived.Deep.DeepCutAuto
import Derived.Deep.CutBlock
import Derived.Deep.CutRange
import Derived.Deep.AppendLies
import Derived.Handy
import Derived.Lib.RabinKarpLaws
namespace Go.Proofs.Ytkfjcbnhohipgaa
open Go.ChangeShapes Go.WideShapes Go.ChangeAt Go.RowKit
set_option linter.unusedVariables false
set_option linter.unusedSimpArgs false


/-- the first k halves of x's phase are empty -/
def dropH (H : Nat → Nat → Nat → Hf) (x e k : Nat) : Nat → Nat → Nat → Hf := fun i j h => if i = x ∧ h = e ∧ j < k then emptied (H i j h) else H i j h
theorem dropH_0 (H : Nat → Nat → Nat → Hf) (x e : Nat) : dropH H x e 0 = H := by
  funext i j h
  simp [dropH]
theorem dropH_succ (H : Nat → Nat → Nat → Hf) (x e k : Nat) : setHf (dropH H x e k) x k e (emptied (dropH H x e k x k e)) = dropH H x e (k + 1) := by
  funext i j h
  by_cases h1 : i = x ∧ j = k ∧ h = e
  · obtain ⟨rfl, rfl, rfl⟩ := h1
    rw [setHf_at]
    simp [dropH]
  · rw [setHf_ne _ _ _ _ _ h1]
    unfold dropH
    by_cases h2 : i = x ∧ h = e ∧ j < k
    · rw [if_pos h2, if_pos ⟨h2.1, h2.2.1, by omega⟩]
    · rw [if_neg h2, if_neg (fun h3 => ?_)]
      by_cases h4 : j = k
      · exact h1 ⟨h3.1, h4, h3.2.1⟩
      · exact h2 ⟨h3.1, h3.2.1, by omega⟩
theorem ptrs_at (f : Nat → Addr) : ∀ k j, j < k → (ptrs f k)[j]? = some (.pointer (some (f j)))
  | 0, j, h => by omega
  | k + 1, j, h => by
    unfold ptrs
    by_cases e : j = k
    · subst e
      rw [List.getElem?_append_right (by rw [ptrs_len]; exact Nat.le_refl _), ptrs_len]
      simp
    · rw [List.getElem?_append_left (by rw [ptrs_len]; omega)]
      exact ptrs_at f k j (by omega)
theorem PR.form {B : Nat} {W : World} {v : Value} {l : List Value} (h : PR B W v l) (hl : 0 < l.length) : ∃ g cap cur, v = .slice (some ⟨g, 0, none⟩) l.length cap ∧ B ≤ g ∧ W.heap[g]? = some (.cells cur 75 (0, 0)) ∧ ∀ j, j < l.length → cur[j]? = l[j]? := by
  rcases h.2 with ⟨_, h0⟩ | ⟨g, cap, cur, rfl, hbg, hg, h3, h4, h5, h6⟩
  · omega
  · refine ⟨g, cap, cur, rfl, hbg, hg, fun j hj => ?_⟩
    rw [← h6, List.getElem?_take, if_pos (by omega)]
    simp
theorem dropH_self (H : Nat → Nat → Nat → Hf) (x e k : Nat) : dropH H x e k x k e = H x k e := by simp [dropH]
set_option maxRecDepth 100000 in
set_option maxHeartbeats 4000000 in
theorem drop_any (x : Nat) {Fo : Nat → Option Obj} {base hb wb bb n : Nat} {room : Int} {cmp : Value} {R : Nat → Nat} {ph fl : Nat → Int} {H : Nat → Nat → Nat → Hf} (hx : x < n) (hn : n ≤ 64) (hp : 0 ≤ ph x ∧ ph x < 4611686018427387904) (W : World) (h : MP Fo W base hb wb bb n room cmp R ph fl H) (hbase : base ≤ W.heap.size) :
    Calls Try.prog 18 #[.pointer (some ⟨hb, 0, none⟩), .int .i64 (x : Int)] W fun r W' => Below base W W' ∧ r = .returned (.tuple #[.int .i64 (sm (fun j => (H x j (par (ph x))).l) n : Nat), .int .i64 0]) ∧ MP Fo W' base hb wb bb n room cmp R ph (fun i => if i = x then 0 else fl i) (dropH H x (par (ph x)) n) := by
  have HK := knows_yes hb wb bb n room x hx cmp W h.p
  obtain ⟨c0, c1, c2, c3⟩ := h.p.cells
  obtain ⟨y0, y1⟩ := h.wk x hx
  have x0 : (0 : Int) ≤ (x : Int) := by omega
  have x1 : (x : Int) < (n : Int) := by omega
  have nf : W.frozen? ⟨wb, x * 2 + 1, none⟩ = false := by obtain ⟨cr, hcr, _⟩ := h.w.block; exact frz hcr _
  obtain ⟨px, hpx⟩ : ∃ px, ph x = px := ⟨_, rfl⟩
  obtain ⟨W1, hW1⟩ : ∃ W1, W.setCell ⟨wb, x * 2 + 1, none⟩ (.int .i64 0) = W1 := ⟨_, rfl⟩
  have hM1 : MP Fo W1 base hb wb bb n room cmp R ph (fun i => if i = x then 0 else fl i) H := by
    have := h.setW x hx 1 (by decide) 0
    rw [hW1] at this
    simpa using this
  have hB1 : Below base W W1 := by rw [← hW1]; exact (Below.refl base W).setCell (p := ⟨wb, x * 2 + 1, none⟩) (Own.lt h.w wb rfl).1 _
  have H1 := mhid (And.intro hM1 (And.intro hB1 (Nat.le_trans hbase hB1.size)))
  have HW := mhid hW1
  have HPX := mhid hpx
  have HSE : Calls Try.prog 35 #[.pointer (some ⟨hb, 0, none⟩), .int .i64 (x : Int), .int .i64 px] W1 fun e W' => ∃ g cap cur, e = .returned (.slice (some ⟨g, 0, none⟩) n cap) ∧ (W1.heap.size ≤ g ∧ W'.heap[g]? = some (.cells cur 75 (0, 0)) ∧ (∀ j, j < n → cur[j]? = some (.pointer (some ⟨R x, j * 2 + par px, none⟩))) ∧ Below W1.heap.size W1 W') := (sent_any hb wb bb n room x hx hn cmp R px (by omega) W1 hM1.bs).mono fun e W' ⟨v, h1, h2, h3⟩ => by
    obtain ⟨g, cap, cur, k1, k2, k3, k4⟩ := h2.form (by rw [ptrs_len]; omega)
    rw [ptrs_len] at k1 k4
    exact ⟨g, cap, cur, by rw [h1, k1], k2, k3, fun j hj => by rw [k4 j hj, ptrs_at _ n j hj]; rfl, h3⟩
  clear h hM1 hB1 hW1 hpx hp hbase
  go_enter Try.func18, Try.ntmps18
  go_upto_region 5 with (go_at_call 30; (with_reducible refine HK.mono ?_); rintro e w1 ⟨rfl, h9⟩; subst h9)
  rw [HW.out]
  clear c0 c1 c2 c3 y0 y1 nf
  obtain ⟨c0, c1, c2, c3⟩ := H1.out.1.p.cells
  obtain ⟨y0, y1⟩ := H1.out.1.wk x hx
  rw [HPX.out] at y0
  go_upto_region 6 with (go_at_call 35; (with_reducible refine HSE.mono ?_); rintro e w2 ⟨g, cap, cur, rfl, p2⟩; have P2 := mhid p2; clear p2)
  clear c0 c1 c2 c3 y0 y1 HSE HK
  have H2 := mhid (H1.out.1.later P2.out.2.2.2)
  go_loopw [6, 32] (fun a y wr => ∃ j : Nat, y = .int .i64 (j : Int) ∧ j ≤ n ∧ a = .int .i64 (sm (fun j => (H x j (par px)).l) j : Nat) ∧ MP Fo wr base hb wb bb n room cmp R ph (fun i => if i = x then 0 else fl i) (dropH H x (par px) j) ∧ Below base W1 wr ∧ wr.heap[g]? = some (.cells cur 75 (0, 0))) (fun _ y _ => n - (intOf y).toNat)
  case atStart => exact ⟨0, rfl, Nat.zero_le _, rfl, by rw [dropH_0]; exact H2.out, P2.out.2.2.2.mono H1.out.2.2, P2.out.2.1⟩
  case round =>
    obtain ⟨j, rfl, hj, rfl, hm1, hb1, hg1⟩ := hrel
    have HR := mhid (And.intro hm1 (And.intro hb1 hg1))
    by_cases hlt : j < n
    · have dl : decide ((j : Int) < (n : Int)) = true := by simp; omega
      have hme := meas hlt
      have ek : IntKind.i64.wrap ((j : Int) + 1) = (j : Int) + 1 := by rw [IntKind.wrap_i64]; omega
      have k0 : (0 : Int) ≤ (j : Int) := by omega
      have k1 : (j : Int) < (n : Int) := by omega
      have y0 : wr.cell? ⟨g, j, none⟩ = some (.pointer (some ⟨R x, j * 2 + par px, none⟩)) := by
        unfold World.cell?
        rw [hg1]
        simpa using P2.out.2.2.1 j hlt
      have HE := empty_any x j (par px) hx hlt (by have := par_le px; omega) wr hm1
      rw [dropH_succ, dropH_self] at HE
      have hsm := sm_le (fun j => (H x j (par px)).l) 1024 (fun j => (by have := H1.out.1.s x j (par px); exact this)) j
      have hlj : (H x j (par px)).l ≤ 1024 := H1.out.1.s x j (par px)
      have hnx : sm (fun j => (H x j (par px)).l) (j + 1) = sm (fun j => (H x j (par px)).l) j + (H x j (par px)).l := rfl
      have HNX := mhid hnx
      have HAP := mhid ((hm1.h x j (par px) hx hlt (by have := par_le px; omega)).apart hg1 (by decide))
      rw [dropH_self] at HAP
      have hgR : g ≠ R x := by obtain ⟨cr, hcr, _⟩ := (hm1.r x hx).block; exact typ_ne hg1 hcr (by decide)
      generalize sm (fun j => (H x j (par px)).l) j = t at hsm HNX ⊢
      obtain ⟨u, hu⟩ : ∃ u, (H x j (par px)).l = u := ⟨_, rfl⟩
      rw [hu] at hlj HE HNX
      have e1 : IntKind.i64.wrap ((t : Int) + (u : Int)) = ((t + u : Nat) : Int) := by rw [IntKind.wrap_i64]; omega
      have HLT := mhid hlt
      have HGR := mhid hgR
      clear hm1 hb1 hg1 hnx hu hlt hj hgR
      go_wp2_with (go_at_call 39; (with_reducible refine HE.mono ?_); rintro e9 w9 ⟨rfl, m9, b9, k9⟩)
      exact ⟨⟨j + 1, rfl, HLT.out, by rw [HNX.out, Int.natCast_add], m9, HR.out.2.1.trans b9, by rw [k9.2 g HGR.out (fun e => HAP.out g e rfl)]; exact HR.out.2.2⟩, hme⟩
    · have dl : decide ((j : Int) < (n : Int)) = false := by simp; omega
      obtain rfl : j = n := by omega
      clear hm1 hb1 hg1
      go_wp2_with fail
      refine bodyPost_ret (v := .tuple #[.int .i64 (sm (fun i => (H x i (par px)).l) j : Nat), .int .i64 0]) (by simp [results, Try.results18, go_sem]) rfl ?_
      rw [HPX.out]
      exact ⟨H1.out.2.1.trans HR.out.2.1, rfl, HR.out.1⟩
end Go.Proofs.Ytkfjcbnhohipgaa
