import Derived.Test.YtfgkmijaimfkjaaX15
namespace Go.Proofs.Ytfgkmijaimfkjaa
open Go.ChangeShapes Go.WideShapes Go.ChangeAt Go.RowKit
set_option linter.unusedVariables false
set_option linter.unusedSimpArgs false
variable {W0 : World} {hb wb cb n k : Nat} {B : RB} {N : Nt} {R : Rt}

theorem one_any (kd : Int) (hn1 : 1 ≤ n) (hn : n ≤ 64) (x v : Int) (hk : k < 100000000000000) (W : World) (h : PI W0 hb wb cb B n k N R W) : Calls Try.prog 20 #[.pointer (some ⟨hb, 0, none⟩), .pointer (some ⟨B.rb, 0, none⟩), .agg #[.int .i64 kd, .int .i64 x, .int .i64 v]] W fun e W' => e = .returned (.bool true) ∧ ∃ N' R', PI W0 hb wb cb B n (k + 1) N' R' W' := by
  by_cases a0 : kd = 0
  · subst a0; exact (one0 hn1 hn x v hk W h).mono fun e W' ⟨h1, h2⟩ => ⟨h1, _, h2⟩
  by_cases a1 : kd = 1
  · subst a1; exact (one1 hn1 hn x v hk W h).mono fun e W' ⟨h1, h2⟩ => ⟨h1, _, h2⟩
  by_cases a2 : kd = 2
  · subst a2; exact (one2 hn1 hn x v hk W h).mono fun e W' ⟨h1, h2⟩ => ⟨h1, _, h2⟩
  by_cases a3 : kd = 3
  · subst a3; exact (one3 hn1 hn x v hk W h).mono fun e W' ⟨h1, h2⟩ => ⟨h1, _, h2⟩
  by_cases a4 : kd = 4
  · subst a4; exact (one4 hn1 hn x v hk W h).mono fun e W' ⟨h1, h2⟩ => ⟨h1, _, h2⟩
  by_cases a5 : kd = 5
  · subst a5; exact (one5 hn1 hn x v hk W h).mono fun e W' ⟨h1, h2⟩ => ⟨h1, _, h2⟩
  exact (one6 kd ⟨a0, a1, a2, a3, a4, a5⟩ hn1 hn x v hk W h).mono fun e W' ⟨h1, h2⟩ => ⟨h1, _, h2⟩
set_option maxRecDepth 100000 in
set_option maxHeartbeats 1000000 in
theorem idle_bad (x : Int) (p : Option Addr) (m c : Nat) (X : Nat → NsV) (h : x < 1 ∨ 64 < x) (W : World) (hk : NsIn W p m X) (hm : m ≤ 10000000000000) : Calls Try.prog 4 #[.int .i64 x, .slice p m c] W fun e W' => e = .returned (.bool true) ∧ Below W.heap.size W W' := by
  have HB := nnew_bad x h .nilFunc W
  have HR := rnew_bad x 0 h W
  have HKK : Hid (NsIn W p m X) := hk
  clear hk
  go_enter Try.func4, Try.ntmps4
  go_wp2_with (first | (go_at_call 18; (with_reducible refine HB.mono ?_); rintro e w1 ⟨rfl, h9⟩; have h8 := h9.symm; subst h8; clear h9) | (go_at_call 19; (with_reducible refine HR.mono ?_); rintro e w1 ⟨rfl, h9⟩; have h8 := h9.symm; subst h8; clear h9))
  go_loopw [33] (fun y wr => ∃ k : Nat, y = .int .i64 (k : Int) ∧ k ≤ m ∧ Below W.heap.size W wr) (fun y _ => m - (intOf y).toNat)
  case atStart => exact ⟨0, rfl, Nat.zero_le _, Below.refl _ _⟩
  case round =>
    obtain ⟨k, rfl, hkm, hbr⟩ := hrel
    by_cases hlt : k < m
    · have dl : decide ((k : Int) < (m : Int)) = true := by simp; omega
      have hmm := meas hlt
      have k0 : (0 : Int) ≤ (k : Int) := by omega
      have k1 : (k : Int) < (m : Int) := by omega
      have ek : IntKind.i64.wrap ((k : Int) + 1) = (k : Int) + 1 := by rw [IntKind.wrap_i64]; omega
      rcases HKK.out with h0 | ⟨b, o, rfl, hbl, hck⟩
      · omega
      have kc0 : wr.cell? ⟨b, o + k * 3, none⟩ = some (.int .i64 (X k).k) := (hbr.cell hbl).trans (hck k 0 hlt (by decide))
      have kc1 : wr.cell? ⟨b, o + k * 3 + 1, none⟩ = some (.int .i64 (X k).x) := (hbr.cell hbl).trans (hck k 1 hlt (by decide))
      have kc2 : wr.cell? ⟨b, o + k * 3 + 2, none⟩ = some (.int .i64 (X k).v) := (hbr.cell hbl).trans (hck k 2 hlt (by decide))
      have HBR : Hid (Below W.heap.size W wr) := hbr
      clear hck hbl hbr
      go_wp2_with fail
      exact ⟨⟨k + 1, rfl, hlt, HBR.out.alloc HBR.out.size _⟩, hmm⟩
    · have dl : decide ((k : Int) < (m : Int)) = false := by simp; omega
      go_wp2_with fail
      go_ret
      exact ⟨rfl, hbr⟩
set_option maxRecDepth 100000 in
set_option maxHeartbeats 1000000 in
theorem idle_good (n : Nat) (h1 : 1 ≤ n) (h2 : n ≤ 64) (p : Option Addr) (m c : Nat) (X : Nat → NsV) (W : World) (hk : NsIn W p m X) (hm : m ≤ 10000000000000) : Calls Try.prog 4 #[.int .i64 (n : Int), .slice p m c] W fun e W' => e = .returned (.bool true) ∧ Below W.heap.size W W' := by
  have HB := nnew_nil n h1 h2 W
  have HR := fun W' => rnew_any n 0 h1 h2 W'
  simp only [show ((0 : Nat) : Int) = 0 from rfl] at HR
  have HKK : Hid (NsIn W p m X) := hk
  clear hk
  go_enter Try.func4, Try.ntmps4
  go_wp2_with (first | (go_at_call 18; (with_reducible refine HB.mono ?_); rintro e w1 ⟨hb, wb, cb, rfl, hN, hbl⟩; have HN : Hid (NW W.heap.size hb wb cb n (.func (.func 56) #[] #[]) Nt.new w1 ∧ Below W.heap.size W w1) := ⟨hN, hbl⟩; clear hN hbl) | (go_at_call 19; (with_reducible refine (HR _).mono ?_); rintro e w2 ⟨rfl, hR2, hb2⟩; have HI0 : Hid (PI W hb wb cb (RB.new w1.heap.size) n 0 Nt.new Rt.new w2) := ⟨HN.out.1.later hb2, hR2.lower HN.out.2.size, rl_new n, ⟨fun _ => Nat.zero_le _, fun _ => Nat.le_refl _⟩, HN.out.2.trans (hb2.mono HN.out.2.size)⟩; clear hR2 hb2))
  go_loopw [33] (fun y wr => ∃ (k : Nat) (N : Nt) (R : Rt), y = .int .i64 (k : Int) ∧ k ≤ m ∧ PI W hb wb cb (RB.new w1.heap.size) n k N R wr) (fun y _ => m - (intOf y).toNat)
  case atStart => exact ⟨0, _, _, rfl, Nat.zero_le _, HI0.out⟩
  case round =>
    obtain ⟨k, N, R, rfl, hkm, hI⟩ := hrel
    clear HI0
    by_cases hlt : k < m
    · have dl : decide ((k : Int) < (m : Int)) = true := by simp; omega
      have hmm := meas hlt
      have k0 : (0 : Int) ≤ (k : Int) := by omega
      have k1 : (k : Int) < (m : Int) := by omega
      have ek : IntKind.i64.wrap ((k : Int) + 1) = (k : Int) + 1 := by rw [IntKind.wrap_i64]; omega
      rcases HKK.out with h0 | ⟨b, o, rfl, hbl, hck⟩
      · omega
      have kc0 : wr.cell? ⟨b, o + k * 3, none⟩ = some (.int .i64 (X k).k) := (hI.bl.cell hbl).trans (hck k 0 hlt (by decide))
      have kc1 : wr.cell? ⟨b, o + k * 3 + 1, none⟩ = some (.int .i64 (X k).x) := (hI.bl.cell hbl).trans (hck k 1 hlt (by decide))
      have kc2 : wr.cell? ⟨b, o + k * 3 + 2, none⟩ = some (.int .i64 (X k).v) := (hI.bl.cell hbl).trans (hck k 2 hlt (by decide))
      have HO := fun o => one_any (X k).k h1 h2 (X k).x (X k).v (by omega) (wr.alloc o) (hI.later ((Below.refl _ wr).alloc (Nat.le_refl _) o))
      simp only [show (RB.new w1.heap.size).rb = w1.heap.size from rfl] at HO
      generalize (X k).k = kd at *
      generalize (X k).x = x at *
      generalize (X k).v = v at *
      have HI : Hid (PI W hb wb cb (RB.new w1.heap.size) n k N R wr) := hI
      clear hI hck hbl
      go_wp2_with (go_at_call 20; (with_reducible refine (HO _).mono ?_); rintro e w3 ⟨rfl, N3, R3, h3⟩; have HI3 : Hid (PI W hb wb cb (RB.new w1.heap.size) n (k + 1) N3 R3 w3) := h3; clear h3)
      exact ⟨⟨k + 1, N3, R3, rfl, hlt, HI3.out⟩, hmm⟩
    · have dl : decide ((k : Int) < (m : Int)) = false := by simp; omega
      go_wp2_with fail
      go_ret
      exact ⟨rfl, hI.bl⟩
theorem idle_law (x : Int) (p : Option Addr) (m c : Nat) (X : Nat → NsV) (W : World) (hk : NsIn W p m X) (hm : m ≤ 10000000000000) : Calls Try.prog 4 #[.int .i64 x, .slice p m c] W fun e W' => e = .returned (.bool true) ∧ Below W.heap.size W W' := by
  by_cases hx : x < 1 ∨ 64 < x
  · exact idle_bad x p m c X hx W hk hm
  · obtain ⟨n, rfl⟩ : ∃ n : Nat, x = (n : Int) := ⟨x.toNat, by omega⟩
    exact idle_good n (by omega) (by omega) p m c X W hk (by omega)
end Go.Proofs.Ytfgkmijaimfkjaa
