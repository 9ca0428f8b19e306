import Derived.Test.YtpicobmilcbmlaaKE3
import Derived.Test.YtpicobmilcbmlaaKE4
import Derived.Test.YtpicobmilcbmlaaDShelf
import Derived.Lib.BitFns
import Derived.Shelf.Strconv.Itoa0
namespace Go.Proofs.Ytpicobmilcbmlaa
open Go.ChangeShapes Go.WideShapes Go.ChangeAt Go.RowKit
set_option linter.unusedVariables false
set_option linter.unusedSimpArgs false

theorem klen_any (x : Int) (h : 0 ≤ x ∧ x ≤ 18446744073709551615) (w : World) :
    Calls Try.prog 35 #[.int .u64 x] w fun e w' => e = .returned (.int .i64 (Lib.bitLen x.toNat)) ∧ w' = w := Any.bits_Len64 laysLen x w h.1 h.2
def LvK (n a b : Nat) : Prop := (a = 1 ∧ b = 2 ∧ 1 ≤ n) ∨ (a = 2 ∧ b = 4 ∧ 2 ≤ n) ∨ (a = 3 ∧ b = 8 ∧ 4 ≤ n) ∨ (a = 4 ∧ b = 16 ∧ 8 ≤ n) ∨ (a = 5 ∧ b = 32 ∧ 16 ≤ n) ∨ (a = 6 ∧ b = 64 ∧ 32 ≤ n) ∨ (a = 7 ∧ b = 128 ∧ 64 ≤ n)
theorem LvK.next {n a b : Nat} (hn : n ≤ 64) (h : LvK n a b) (hb : b ≤ n) : LvK n (a + 1) (2 * b) := by
  rcases h with ⟨rfl, rfl, h⟩ | ⟨rfl, rfl, h⟩ | ⟨rfl, rfl, h⟩ | ⟨rfl, rfl, h⟩ | ⟨rfl, rfl, h⟩ | ⟨rfl, rfl, h⟩ | ⟨rfl, rfl, h⟩
  · exact .inr (.inl ⟨rfl, rfl, by omega⟩)
  · exact .inr (.inr (.inl ⟨rfl, rfl, by omega⟩))
  · exact .inr (.inr (.inr (.inl ⟨rfl, rfl, by omega⟩)))
  · exact .inr (.inr (.inr (.inr (.inl ⟨rfl, rfl, by omega⟩))))
  · exact .inr (.inr (.inr (.inr (.inr (.inl ⟨rfl, rfl, by omega⟩)))))
  · exact .inr (.inr (.inr (.inr (.inr (.inr ⟨rfl, rfl, by omega⟩)))))
  · omega
theorem LvK.bd {n a b : Nat} (h : LvK n a b) : a ≤ 7 ∧ b ≤ 128 ∧ 2 ≤ b := by
  unfold LvK at h
  omega
theorem bitLen_tab : ∀ n : Fin 65, Lib.bitLen n.val = (if 64 ≤ n.val then 7 else if 32 ≤ n.val then 6 else if 16 ≤ n.val then 5 else if 8 ≤ n.val then 4 else if 4 ≤ n.val then 3 else if 2 ≤ n.val then 2 else if 1 ≤ n.val then 1 else 0) := by decide +kernel
theorem LvK.last {n a b : Nat} (hn : n ≤ 64) (h : LvK n a b) (hb : n < b) : Lib.bitLen n = a := by
  have := bitLen_tab ⟨n, by omega⟩
  rw [show Lib.bitLen n = Lib.bitLen (⟨n, by omega⟩ : Fin 65).val from rfl, this]
  dsimp only
  unfold LvK at h
  split
  · omega
  · split
    · omega
    · split
      · omega
      · split
        · omega
        · split
          · omega
          · split
            · omega
            · split <;> omega
theorem bitLen7 {n : Nat} (hn : n ≤ 64) : Lib.bitLen n ≤ 7 := by
  have := bitLen_tab ⟨n, by omega⟩
  rw [show Lib.bitLen n = Lib.bitLen (⟨n, by omega⟩ : Fin 65).val from rfl, this]
  dsimp only
  repeat (first | omega | split)
set_option maxRecDepth 100000 in
theorem rlevels_any (n : Nat) (h1 : 1 ≤ n) (hn : n ≤ 64) (W : World) : Calls Try.prog 22 #[.int .i64 (n : Int)] W fun e W' => e = .returned (.int .i64 (Lib.bitLen n : Int)) ∧ W' = W := by
  go_enter Try.func22, Try.ntmps22
  go_wp2_with fail
  go_loopw [3, 4] (fun x y wr => ∃ a b : Nat, x = .int .i64 (a : Int) ∧ y = .int .i64 (b : Int) ∧ LvK n a b ∧ wr = W) (fun _ y _ => 128 - (intOf y).toNat)
  case atStart => exact ⟨1, 2, rfl, rfl, .inl ⟨rfl, rfl, h1⟩, rfl⟩
  case round =>
    obtain ⟨a, b, rfl, rfl, hl, h9⟩ := hrel
    subst h9
    have hbd := LvK.bd hl
    have HL : Hid (LvK n a b) := hl
    by_cases hb : b ≤ n
    · have db : decide ((b : Int) ≤ (n : Int)) = true := by simp; omega
      have ea : IntKind.i64.wrap ((a : Int) + 1) = ((a + 1 : Nat) : Int) := by rw [IntKind.wrap_i64]; omega
      have eb : IntKind.i64.wrap (2 * (b : Int)) = ((2 * b : Nat) : Int) := by rw [IntKind.wrap_i64]; omega
      have HX : Hid (LvK n (a + 1) (2 * b)) := LvK.next hn hl hb
      have hm : 128 - (intOf (.int .i64 ((2 * b : Nat) : Int))).toNat < 128 - (intOf (.int .i64 (b : Int))).toNat := by simp only [intOf]; omega
      clear hl
      go_wp2_with fail
      exact ⟨⟨a + 1, 2 * b, rfl, rfl, HX.out, by first | rfl | trivial⟩, hm⟩
    · have db : decide ((b : Int) ≤ (n : Int)) = false := by simp; omega
      have HLL : Hid (Lib.bitLen n = a) := LvK.last hn hl (by omega)
      clear hl
      go_wp2_with fail
      go_ret
      exact ⟨by rw [HLL.out]; rfl, rfl⟩
set_option maxRecDepth 100000 in
theorem blen_any (n : Nat) (hn : n ≤ 64) (W : World) : Calls Try.prog 28 #[.int .u64 (n : Int)] W fun e W' => e = .returned (.int .i64 (Lib.bitLen n : Int)) ∧ W' = W := by
  have HL := klen_any (n : Int) ⟨by omega, by omega⟩
  rw [Int.toNat_natCast] at HL
  go_enter Try.func28, Try.ntmps28
  go_wp2_with (go_at_call 35; (with_reducible refine (HL _).mono ?_); rintro e w9 ⟨rfl, h9⟩; subst w9)
  go_ret
  exact ⟨rfl, rfl⟩
set_option maxRecDepth 100000 in
theorem levelsOf_any (n : Nat) (hn : n ≤ 64) (W : World) : Calls Try.prog 17 #[.int .i64 (n : Int)] W fun e W' => e = .returned (.int .i64 (Lib.bitLen n : Int)) ∧ W' = W := by
  have HL := blen_any n hn
  have ew : IntKind.u64.wrap (n : Int) = (n : Int) := by simp [IntKind.wrap, IntKind.bits, IntKind.signed]; omega
  go_enter Try.func17, Try.ntmps17
  go_wp2_with (go_at_call 28; (with_reducible refine (HL _).mono ?_); rintro e w9 ⟨rfl, h9⟩; subst w9)
  go_ret
  exact ⟨rfl, rfl⟩
/-- what Enough tells -/
def EN (p : Pl) (l : Ly) (r : Int) : Prop := ∃ c, LC p l c ∧ (c ≠ 0 ∧ r = 0 ∨ c = 0 ∧ r = (p.bu + 1) * (15 * (Lib.bitLen l.wk.toNat : Int) + 3) + 5 * (Lib.bitLen l.wk.toNat : Int) + 2)
theorem EN.one {p : Pl} {l : Ly} {r s : Int} (h : EN p l r) (h' : EN p l s) : r = s := by
  obtain ⟨c, h1, h2⟩ := h
  obtain ⟨d, h3, h4⟩ := h'
  obtain rfl := LC.one h1 h3
  rcases h2 with ⟨a, rfl⟩ | ⟨a, rfl⟩ <;> rcases h4 with ⟨b, rfl⟩ | ⟨b, rfl⟩ <;> first | rfl | exact absurd b a | exact absurd a b
theorem en_wraps (b u : Int) (hb : 0 ≤ b ∧ b ≤ 7) (hu : 0 ≤ u ∧ u ≤ 4096) : (IntKind.i64.wrap (u + 1) = u + 1 ∧ IntKind.i64.wrap (15 * b) = 15 * b ∧ IntKind.i64.wrap (15 * b + 3) = 15 * b + 3) ∧ IntKind.i64.wrap ((u + 1) * (15 * b + 3)) = (u + 1) * (15 * b + 3) ∧ IntKind.i64.wrap (5 * b) = 5 * b ∧ IntKind.i64.wrap ((u + 1) * (15 * b + 3) + 5 * b) = (u + 1) * (15 * b + 3) + 5 * b ∧ IntKind.i64.wrap ((u + 1) * (15 * b + 3) + 5 * b + 2) = (u + 1) * (15 * b + 3) + 5 * b + 2 := by
  have h1 : 0 ≤ (u + 1) * (15 * b + 3) := Int.mul_nonneg (by omega) (by omega)
  have h2 : (u + 1) * (15 * b + 3) ≤ 4097 * 108 := Int.mul_le_mul (by omega) (by omega) (by omega) (by omega)
  generalize (u + 1) * (15 * b + 3) = m at h1 h2 ⊢
  simp only [IntKind.wrap_i64]
  omega
set_option maxRecDepth 100000 in
set_option maxHeartbeats 4000000 in
theorem enough_any (p : Pl) (v : PlV) (l : Ly) (u : LyV) (w : World) (h : PlAt w p v) (hO : KAt w u.op l.n l.O) : Calls Try.prog 9 #[.agg #[.int .i64 p.ki, .slice v.pp p.np v.pc, .slice v.tp p.nq v.tc, .slice v.sp p.ns v.sc, .int .u64 p.sd, .int .u64 p.lk, .int .u64 p.en, .int .i64 p.bu, .int .i64 p.fu], .agg #[.int .i64 l.wk, .slice u.op l.n u.oc, .int .i64 l.ar, .int .i64 l.bx, .int .i64 l.un]] w fun e w' => ∃ r, e = .returned (.int .i64 r) ∧ EN p l r ∧ Below w.heap.size w w' := by
  obtain ⟨wb, hwb, hb0, hbox, hbx2, hsz⟩ := boxed2 w #[.int .i64 p.ki, .slice v.pp p.np v.pc, .slice v.tp p.nq v.tc, .slice v.sp p.ns v.sc, .int .u64 p.sd, .int .u64 p.lk, .int .u64 p.en, .int .i64 p.bu, .int .i64 p.fu] #[.int .i64 l.wk, .slice u.op l.n u.oc, .int .i64 l.ar, .int .i64 l.bx, .int .i64 l.un] 43 46
  have HW : Hid ((w.alloc (.cells #[.int .i64 p.ki, .slice v.pp p.np v.pc, .slice v.tp p.nq v.tc, .slice v.sp p.ns v.sc, .int .u64 p.sd, .int .u64 p.lk, .int .u64 p.en, .int .i64 p.bu, .int .i64 p.fu] 43)).alloc (.cells #[.int .i64 l.wk, .slice u.op l.n u.oc, .int .i64 l.ar, .int .i64 l.bx, .int .i64 l.un] 46) = wb) := hwb
  have HSZ : Hid (wb.heap.size = w.heap.size + 2) := hsz
  obtain ⟨⟨c0, c1, c2, c3⟩, c4, c5, c6, c7, c8⟩ := cells9 hbox
  obtain ⟨d0, d1, d2, d3, d4⟩ := cells5p hbx2
  have hl1 := lt_of_block hbox
  have hl2 := lt_of_block hbx2
  have HV := wvalid_any p v l u wb (h.below hb0) (hO.below hb0)
  have KK : ∀ w', Below wb.heap.size wb w' → Hid ((w'.cell? ⟨w.heap.size, 0, none⟩ = some (.int .i64 p.ki) ∧ w'.cell? ⟨w.heap.size, 1, none⟩ = some (.slice v.pp p.np v.pc) ∧ w'.cell? ⟨w.heap.size, 2, none⟩ = some (.slice v.tp p.nq v.tc) ∧ w'.cell? ⟨w.heap.size, 3, none⟩ = some (.slice v.sp p.ns v.sc) ∧ w'.cell? ⟨w.heap.size, 4, none⟩ = some (.int .u64 p.sd) ∧ w'.cell? ⟨w.heap.size, 5, none⟩ = some (.int .u64 p.lk) ∧ w'.cell? ⟨w.heap.size, 6, none⟩ = some (.int .u64 p.en) ∧ w'.cell? ⟨w.heap.size, 7, none⟩ = some (.int .i64 p.bu) ∧ w'.cell? ⟨w.heap.size, 8, none⟩ = some (.int .i64 p.fu)) ∧ (w'.cell? ⟨w.heap.size + 1, 0, none⟩ = some (.int .i64 l.wk) ∧ w'.cell? ⟨w.heap.size + 1, 1, none⟩ = some (.slice u.op l.n u.oc) ∧ w'.cell? ⟨w.heap.size + 1, 2, none⟩ = some (.int .i64 l.ar) ∧ w'.cell? ⟨w.heap.size + 1, 3, none⟩ = some (.int .i64 l.bx) ∧ w'.cell? ⟨w.heap.size + 1, 4, none⟩ = some (.int .i64 l.un))) := fun w' hb => by
    obtain ⟨⟨c0, c1, c2, c3⟩, c4, c5, c6, c7, c8⟩ := cells9 ((hb.block _ hl1).trans hbox)
    exact ⟨⟨c0, c1, c2, c3, c4, c5, c6, c7, c8⟩, cells5p ((hb.block _ hl2).trans hbx2)⟩
  rw [← hwb] at c0 c1 c2 c3 c4 c5 c6 c7 c8 d0 d1 d2 d3 d4
  clear hwb h hO hsz hbox hbx2
  go_enter Try.func9, Try.ntmps9
  by_cases hg : LC p l 0
  case neg =>
    have HVM : Calls Try.prog 16 #[.agg #[.int .i64 p.ki, .slice v.pp p.np v.pc, .slice v.tp p.nq v.tc, .slice v.sp p.ns v.sc, .int .u64 p.sd, .int .u64 p.lk, .int .u64 p.en, .int .i64 p.bu, .int .i64 p.fu], .agg #[.int .i64 l.wk, .slice u.op l.n u.oc, .int .i64 l.ar, .int .i64 l.bx, .int .i64 l.un]] wb fun e w' => ∃ c, e = .returned (.int .i64 c) ∧ ((c != 0) = true ∧ (c == 0) = false) ∧ Hid (LC p l c ∧ c ≠ 0) ∧ Below wb.heap.size wb w' := HV.mono (by
      rintro e w' ⟨c, rfl, h1, h2⟩
      have hc : c ≠ 0 := fun h => hg (h ▸ h1)
      exact ⟨c, rfl, ⟨by simpa using hc, by simpa using hc⟩, ⟨h1, hc⟩, h2⟩)
    clear HV
    go_wp2_with (go_at_call 16; rw [HW.out]; (with_reducible refine HVM.mono ?_); rintro e w1 ⟨c, rfl, ⟨q0, q1⟩, hlc, hb1⟩)
    go_ret
    exact ⟨_, rfl, ⟨c, hlc.out.1, .inl ⟨hlc.out.2, rfl⟩⟩, hb0.trans (hb1.mono hb0.size)⟩
  have HVM : Calls Try.prog 16 #[.agg #[.int .i64 p.ki, .slice v.pp p.np v.pc, .slice v.tp p.nq v.tc, .slice v.sp p.ns v.sc, .int .u64 p.sd, .int .u64 p.lk, .int .u64 p.en, .int .i64 p.bu, .int .i64 p.fu], .agg #[.int .i64 l.wk, .slice u.op l.n u.oc, .int .i64 l.ar, .int .i64 l.bx, .int .i64 l.un]] wb fun e w' => e = .returned (.int .i64 0) ∧ Below wb.heap.size wb w' := HV.mono (by
    rintro e w' ⟨c, rfl, h1, h2⟩
    obtain rfl := LC.one h1 hg
    exact ⟨rfl, h2⟩)
  obtain ⟨⟨hw1, hw2⟩, hu1, hu2⟩ := LC.fit hg
  obtain ⟨kk, hkk⟩ : ∃ kk : Nat, l.wk = (kk : Int) := ⟨l.wk.toNat, by omega⟩
  have hk1 : 1 ≤ kk := by omega
  have hk2 : kk ≤ 64 := by omega
  have HL := levelsOf_any kk hk2
  obtain ⟨b, hb⟩ : ∃ b : Nat, Lib.bitLen kk = b := ⟨_, rfl⟩
  have hb7 : b ≤ 7 := hb ▸ bitLen7 hk2
  obtain ⟨⟨e1, e2, e3⟩, e4, e5, e6, e7⟩ := en_wraps (b : Int) p.bu ⟨by omega, by omega⟩ ⟨hu1, hu2⟩
  have HX : Hid (EN p l ((p.bu + 1) * (15 * (b : Int) + 3) + 5 * (b : Int) + 2)) := ⟨0, hg, .inr ⟨rfl, by rw [hkk, Int.toNat_natCast, hb]⟩⟩
  rw [hb] at HL
  clear HV hg hw1 hw2 hb hk1 hk2 hb7 hu1 hu2
  have HLH : ∀ w1, Hid (Calls Try.prog 17 #[.int .i64 l.wk] w1 fun e W' => e = .returned (.int .i64 (b : Int)) ∧ W' = w1) := fun w1 => by rw [hkk]; exact HL w1
  clear HL hkk
  go_wp2_with (first | (go_at_call 16; rw [HW.out]; (with_reducible refine HVM.mono ?_); rintro e w1 ⟨rfl, hb1⟩; clear c0 c1 c2 c3 c4 c5 c6 c7 c8 d0 d1 d2 d3 d4; obtain ⟨⟨c0, c1, c2, c3, c4, c5, c6, c7, c8⟩, d0, d1, d2, d3, d4⟩ := (KK w1 hb1).out) | (go_at_call 17; (with_reducible refine (HLH w1).out.mono ?_); rintro e w9 ⟨rfl, h9⟩; subst w9))
  go_ret
  exact ⟨_, rfl, HX.out, hb0.trans (hb1.mono hb0.size)⟩
set_option maxRecDepth 100000 in
set_option maxHeartbeats 4000000 in
theorem renough_any (p : Pl) (v : PlV) (l : Ly) (u : LyV) (w : World) (h : PlAt w p v) (hO : KAt w u.op l.n l.O) : Calls Try.prog 12 #[.agg #[.int .i64 p.ki, .slice v.pp p.np v.pc, .slice v.tp p.nq v.tc, .slice v.sp p.ns v.sc, .int .u64 p.sd, .int .u64 p.lk, .int .u64 p.en, .int .i64 p.bu, .int .i64 p.fu], .agg #[.int .i64 l.wk, .slice u.op l.n u.oc, .int .i64 l.ar, .int .i64 l.bx, .int .i64 l.un]] w fun e w' => ∃ r, e = .returned (.int .i64 r) ∧ EN p l r ∧ Below w.heap.size w w' := by
  obtain ⟨wb, hwb, hb0, hbox, hbx2, hsz⟩ := boxed2 w #[.int .i64 p.ki, .slice v.pp p.np v.pc, .slice v.tp p.nq v.tc, .slice v.sp p.ns v.sc, .int .u64 p.sd, .int .u64 p.lk, .int .u64 p.en, .int .i64 p.bu, .int .i64 p.fu] #[.int .i64 l.wk, .slice u.op l.n u.oc, .int .i64 l.ar, .int .i64 l.bx, .int .i64 l.un] 43 46
  have HW : Hid ((w.alloc (.cells #[.int .i64 p.ki, .slice v.pp p.np v.pc, .slice v.tp p.nq v.tc, .slice v.sp p.ns v.sc, .int .u64 p.sd, .int .u64 p.lk, .int .u64 p.en, .int .i64 p.bu, .int .i64 p.fu] 43)).alloc (.cells #[.int .i64 l.wk, .slice u.op l.n u.oc, .int .i64 l.ar, .int .i64 l.bx, .int .i64 l.un] 46) = wb) := hwb
  have HSZ : Hid (wb.heap.size = w.heap.size + 2) := hsz
  obtain ⟨⟨c0, c1, c2, c3⟩, c4, c5, c6, c7, c8⟩ := cells9 hbox
  obtain ⟨d0, d1, d2, d3, d4⟩ := cells5p hbx2
  have hl1 := lt_of_block hbox
  have hl2 := lt_of_block hbx2
  have HV := rlvalid_any p v l u wb (h.below hb0) (hO.below hb0)
  have KK : ∀ w', Below wb.heap.size wb w' → Hid ((w'.cell? ⟨w.heap.size, 0, none⟩ = some (.int .i64 p.ki) ∧ w'.cell? ⟨w.heap.size, 1, none⟩ = some (.slice v.pp p.np v.pc) ∧ w'.cell? ⟨w.heap.size, 2, none⟩ = some (.slice v.tp p.nq v.tc) ∧ w'.cell? ⟨w.heap.size, 3, none⟩ = some (.slice v.sp p.ns v.sc) ∧ w'.cell? ⟨w.heap.size, 4, none⟩ = some (.int .u64 p.sd) ∧ w'.cell? ⟨w.heap.size, 5, none⟩ = some (.int .u64 p.lk) ∧ w'.cell? ⟨w.heap.size, 6, none⟩ = some (.int .u64 p.en) ∧ w'.cell? ⟨w.heap.size, 7, none⟩ = some (.int .i64 p.bu) ∧ w'.cell? ⟨w.heap.size, 8, none⟩ = some (.int .i64 p.fu)) ∧ (w'.cell? ⟨w.heap.size + 1, 0, none⟩ = some (.int .i64 l.wk) ∧ w'.cell? ⟨w.heap.size + 1, 1, none⟩ = some (.slice u.op l.n u.oc) ∧ w'.cell? ⟨w.heap.size + 1, 2, none⟩ = some (.int .i64 l.ar) ∧ w'.cell? ⟨w.heap.size + 1, 3, none⟩ = some (.int .i64 l.bx) ∧ w'.cell? ⟨w.heap.size + 1, 4, none⟩ = some (.int .i64 l.un))) := fun w' hb => by
    obtain ⟨⟨c0, c1, c2, c3⟩, c4, c5, c6, c7, c8⟩ := cells9 ((hb.block _ hl1).trans hbox)
    exact ⟨⟨c0, c1, c2, c3, c4, c5, c6, c7, c8⟩, cells5p ((hb.block _ hl2).trans hbx2)⟩
  rw [← hwb] at c0 c1 c2 c3 c4 c5 c6 c7 c8 d0 d1 d2 d3 d4
  clear hwb h hO hsz hbox hbx2
  go_enter Try.func12, Try.ntmps12
  by_cases hg : LC p l 0
  case neg =>
    have HVM : Calls Try.prog 21 #[.agg #[.int .i64 p.ki, .slice v.pp p.np v.pc, .slice v.tp p.nq v.tc, .slice v.sp p.ns v.sc, .int .u64 p.sd, .int .u64 p.lk, .int .u64 p.en, .int .i64 p.bu, .int .i64 p.fu], .agg #[.int .i64 l.wk, .slice u.op l.n u.oc, .int .i64 l.ar, .int .i64 l.bx, .int .i64 l.un]] wb fun e w' => ∃ c, e = .returned (.int .i64 c) ∧ ((c != 0) = true ∧ (c == 0) = false) ∧ Hid (LC p l c ∧ c ≠ 0) ∧ Below wb.heap.size wb w' := HV.mono (by
      rintro e w' ⟨c, rfl, h1, h2⟩
      have hc : c ≠ 0 := fun h => hg (h ▸ h1)
      exact ⟨c, rfl, ⟨by simpa using hc, by simpa using hc⟩, ⟨h1, hc⟩, h2⟩)
    clear HV
    go_wp2_with (go_at_call 21; rw [HW.out]; (with_reducible refine HVM.mono ?_); rintro e w1 ⟨c, rfl, ⟨q0, q1⟩, hlc, hb1⟩)
    go_ret
    exact ⟨_, rfl, ⟨c, hlc.out.1, .inl ⟨hlc.out.2, rfl⟩⟩, hb0.trans (hb1.mono hb0.size)⟩
  have HVM : Calls Try.prog 21 #[.agg #[.int .i64 p.ki, .slice v.pp p.np v.pc, .slice v.tp p.nq v.tc, .slice v.sp p.ns v.sc, .int .u64 p.sd, .int .u64 p.lk, .int .u64 p.en, .int .i64 p.bu, .int .i64 p.fu], .agg #[.int .i64 l.wk, .slice u.op l.n u.oc, .int .i64 l.ar, .int .i64 l.bx, .int .i64 l.un]] wb fun e w' => e = .returned (.int .i64 0) ∧ Below wb.heap.size wb w' := HV.mono (by
    rintro e w' ⟨c, rfl, h1, h2⟩
    obtain rfl := LC.one h1 hg
    exact ⟨rfl, h2⟩)
  obtain ⟨⟨hw1, hw2⟩, hu1, hu2⟩ := LC.fit hg
  obtain ⟨kk, hkk⟩ : ∃ kk : Nat, l.wk = (kk : Int) := ⟨l.wk.toNat, by omega⟩
  have hk1 : 1 ≤ kk := by omega
  have hk2 : kk ≤ 64 := by omega
  have HL := rlevels_any kk hk1 hk2
  obtain ⟨b, hb⟩ : ∃ b : Nat, Lib.bitLen kk = b := ⟨_, rfl⟩
  have hb7 : b ≤ 7 := hb ▸ bitLen7 hk2
  obtain ⟨⟨e1, e2, e3⟩, e4, e5, e6, e7⟩ := en_wraps (b : Int) p.bu ⟨by omega, by omega⟩ ⟨hu1, hu2⟩
  have HX : Hid (EN p l ((p.bu + 1) * (15 * (b : Int) + 3) + 5 * (b : Int) + 2)) := ⟨0, hg, .inr ⟨rfl, by rw [hkk, Int.toNat_natCast, hb]⟩⟩
  rw [hb] at HL
  clear HV hg hw1 hw2 hb hk1 hk2 hb7 hu1 hu2
  have HLH : ∀ w1, Hid (Calls Try.prog 22 #[.int .i64 l.wk] w1 fun e W' => e = .returned (.int .i64 (b : Int)) ∧ W' = w1) := fun w1 => by rw [hkk]; exact HL w1
  clear HL hkk
  go_wp2_with (first | (go_at_call 21; rw [HW.out]; (with_reducible refine HVM.mono ?_); rintro e w1 ⟨rfl, hb1⟩; clear c0 c1 c2 c3 c4 c5 c6 c7 c8 d0 d1 d2 d3 d4; obtain ⟨⟨c0, c1, c2, c3, c4, c5, c6, c7, c8⟩, d0, d1, d2, d3, d4⟩ := (KK w1 hb1).out) | (go_at_call 22; (with_reducible refine (HLH w1).out.mono ?_); rintro e w9 ⟨rfl, h9⟩; subst w9))
  go_ret
  exact ⟨_, rfl, HX.out, hb0.trans (hb1.mono hb0.size)⟩
theorem put5 {W : World} {b : Nat} {a0 a1 a2 a3 a4 : Value} {t : TypeId} (h : W.heap[b]? = some (.cells #[a0, a1, a2, a3, a4] t (0, 0))) (c0 c1 c2 c3 c4 : Value) (W' : World) (e : ((((W.setCell ⟨b, 0, none⟩ c0).setCell ⟨b, 1, none⟩ c1).setCell ⟨b, 2, none⟩ c2).setCell ⟨b, 3, none⟩ c3).setCell ⟨b, 4, none⟩ c4 = W') : W'.heap[b]? = some (.cells #[c0, c1, c2, c3, c4] t (0, 0)) ∧ (∀ k, k ≠ b → W'.heap[k]? = W.heap[k]?) ∧ (∀ B w0, Below B w0 W → B ≤ b → Below B w0 W') ∧ W'.heap.size = W.heap.size := by
  subst e
  have h0 : (W.setCell ⟨b, 0, none⟩ c0).heap[b]? = some (.cells #[c0, a1, a2, a3, a4] t (0, 0)) := by rw [setCell_block _ _ _ _ h]; rfl
  have h1 : ((W.setCell ⟨b, 0, none⟩ c0).setCell ⟨b, 1, none⟩ c1).heap[b]? = some (.cells #[c0, c1, a2, a3, a4] t (0, 0)) := by rw [setCell_block _ _ _ _ h0]; rfl
  have h2 : (((W.setCell ⟨b, 0, none⟩ c0).setCell ⟨b, 1, none⟩ c1).setCell ⟨b, 2, none⟩ c2).heap[b]? = some (.cells #[c0, c1, c2, a3, a4] t (0, 0)) := by rw [setCell_block _ _ _ _ h1]; rfl
  have h3 : ((((W.setCell ⟨b, 0, none⟩ c0).setCell ⟨b, 1, none⟩ c1).setCell ⟨b, 2, none⟩ c2).setCell ⟨b, 3, none⟩ c3).heap[b]? = some (.cells #[c0, c1, c2, c3, a4] t (0, 0)) := by rw [setCell_block _ _ _ _ h2]; rfl
  refine ⟨by rw [setCell_block _ _ _ _ h3]; rfl, fun k hk => ?_, fun B w0 hb hB => ?_, by simp [World.setCell]⟩
  · rw [Below.heap_setCell _ _ _ _ hk, Below.heap_setCell _ _ _ _ hk, Below.heap_setCell _ _ _ _ hk, Below.heap_setCell _ _ _ _ hk, Below.heap_setCell _ _ _ _ hk]
  · exact ((((hb.setCell (p := ⟨b, 0, none⟩) hB _).setCell (p := ⟨b, 1, none⟩) hB _).setCell (p := ⟨b, 2, none⟩) hB _).setCell (p := ⟨b, 3, none⟩) hB _).setCell (p := ⟨b, 4, none⟩) hB _
set_option maxRecDepth 100000 in
set_option maxHeartbeats 4000000 in
theorem copyLayout_any (l : Ly) (u : LyV) (w : World) (hn : l.n ≤ 17592186044416) (hO : KAt w u.op l.n l.O) : Calls Try.prog 11 #[.agg #[.int .i64 l.wk, .slice u.op l.n u.oc, .int .i64 l.ar, .int .i64 l.bx, .int .i64 l.un]] w fun e w' => ∃ u : LyV, e = .returned (.agg #[.int .i64 l.wk, .slice u.op l.n u.oc, .int .i64 l.ar, .int .i64 l.bx, .int .i64 l.un]) ∧ KAt w' u.op l.n l.O ∧ Below w.heap.size w w' := by
  obtain ⟨wb, hwb, hb0, hbox, hbx2, hsz⟩ := boxed2 w #[.int .i64 l.wk, .slice u.op l.n u.oc, .int .i64 l.ar, .int .i64 l.bx, .int .i64 l.un] #[.int .i64 0, .slice none 0 0, .int .i64 0, .int .i64 0, .int .i64 0] 46 46
  have HW : Hid ((w.alloc (.cells #[.int .i64 l.wk, .slice u.op l.n u.oc, .int .i64 l.ar, .int .i64 l.bx, .int .i64 l.un] 46)).alloc (.cells #[.int .i64 0, .slice none 0 0, .int .i64 0, .int .i64 0, .int .i64 0] 46) = wb) := hwb
  have HSZ : Hid (wb.heap.size = w.heap.size + 2) := hsz
  obtain ⟨d0, d1, d2, d3, d4⟩ := cells5p hbox
  have hl1 := lt_of_block hbox
  have hl2 := lt_of_block hbx2
  have HC := copyInts_any u.op l.n u.oc l.O wb hn (hO.below hb0)
  obtain ⟨gw, hgw⟩ : ∃ gw, wb.heap.size = gw := ⟨_, rfl⟩
  rw [hgw] at HC
  have HGW : Hid (wb.heap.size = gw) := hgw
  rw [← hwb] at d0 d1 d2 d3 d4
  clear hwb hO hsz hgw
  go_enter Try.func11, Try.ntmps11
  go_upto_region 2 with (go_at_call 20; rw [HW.out]; (with_reducible refine HC.mono ?_); rintro e w1 ⟨rfl, hr1, hb1, hlt1⟩; have hb1 : Below wb.heap.size wb w1 := (by rw [HGW.out]; exact hb1); have hx1 := (hb1.block _ hl1).trans hbox; have hy1 := (hb1.block _ hl2).trans hbx2; have H1 : Hid (KAt w1 (some ⟨gw, 0, none⟩) l.n l.O ∧ Below wb.heap.size wb w1 ∧ w1.heap[w.heap.size]? = some (.cells #[.int .i64 l.wk, .slice u.op l.n u.oc, .int .i64 l.ar, .int .i64 l.bx, .int .i64 l.un] 46 (0, 0)) ∧ w1.heap[w.heap.size + 1]? = some (.cells #[.int .i64 0, .slice none 0 0, .int .i64 0, .int .i64 0, .int .i64 0] 46 (0, 0))) := ⟨kat_cells hr1, hb1, hx1, hy1⟩; clear d0 d1 d2 d3 d4; obtain ⟨d0, d1, d2, d3, d4⟩ := cells5p hx1; have z0 := frz hx1 1; clear hr1 hb1 hlt1 hx1 hy1)
  obtain ⟨w2, hw2⟩ : ∃ w2, w1.setCell ⟨w.heap.size, 1, none⟩ (.slice (some ⟨gw, 0, none⟩) l.n l.n) = w2 := ⟨_, rfl⟩
  rw [hw2]
  have hbx3 : w2.heap[w.heap.size]? = some (.cells #[.int .i64 l.wk, .slice (some ⟨gw, 0, none⟩) l.n l.n, .int .i64 l.ar, .int .i64 l.bx, .int .i64 l.un] 46 (0, 0)) := by rw [← hw2, setCell_block _ _ _ _ H1.out.2.2.1]; rfl
  have hrs2 : w2.heap[w.heap.size + 1]? = some (.cells #[.int .i64 0, .slice none 0 0, .int .i64 0, .int .i64 0, .int .i64 0] 46 (0, 0)) := by
    rw [← hw2, Below.heap_setCell _ _ _ _ (by show w.heap.size + 1 ≠ w.heap.size; omega)]
    exact H1.out.2.2.2
  have HK2 : Hid (Kb (fun k => k = w.heap.size) w1 w2 ∧ w2.heap[w.heap.size + 1]? = some (.cells #[.int .i64 0, .slice none 0 0, .int .i64 0, .int .i64 0, .int .i64 0] 46 (0, 0)) ∧ Below w.heap.size w w2) := by
    refine ⟨by rw [← hw2]; exact Kb.set w1 _ _ _ rfl, hrs2, ?_⟩
    rw [← hw2]
    exact (hb0.trans (H1.out.2.1.mono hb0.size)).setCell (p := ⟨w.heap.size, 1, none⟩) (Nat.le_refl _) _
  clear d0 d1 d2 d3 d4 z0 hw2
  obtain ⟨d0, d1, d2, d3, d4⟩ := cells5p hbx3
  obtain ⟨r0, r1, r2, r3, r4⟩ := cells5p hrs2
  have z0 := frz hrs2 0
  have z1 := frz hrs2 1
  have z2 := frz hrs2 2
  have z3 := frz hrs2 3
  have z4 := frz hrs2 4
  clear hbx3 hrs2 hbox hbx2
  go_wp2_with fail
  generalize hWF : (World.setCell (World.setCell (World.setCell (World.setCell (World.setCell w2 _ _) _ _) _ _) _ _) _ _) = wF
  obtain ⟨q1, q2, q3, q4⟩ := put5 HK2.out.2.1 _ _ _ _ _ wF hWF
  obtain ⟨e0, e1, e2, e3, e4⟩ := cells5p q1
  refine bodyPost_ret (v := .agg #[.int .i64 l.wk, .slice (some ⟨gw, 0, none⟩) l.n l.n, .int .i64 l.ar, .int .i64 l.bx, .int .i64 l.un]) (by simp [results, Try.results11, go_sem, e0, e1, e2, e3, e4]; try rfl) rfl ?_
  have hz := HSZ.out
  have hg := HGW.out
  have hs2 := HK2.out.1.size
  refine ⟨⟨some ⟨gw, 0, none⟩, l.n⟩, rfl, ?_, q3 _ _ HK2.out.2.2 (Nat.le_succ _)⟩
  have k1 := H1.out.1.kb HK2.out.1 (fun g o e h9 => by
    injection e with e
    injection e with e1 e2 e3
    have : g = w.heap.size := h9
    omega)
  exact k1.kb (S := fun k => k = w.heap.size + 1) ⟨by omega, fun k _ hs => q2 k hs⟩ (fun g o e h9 => by
    injection e with e
    injection e with e1 e2 e3
    have : g = w.heap.size + 1 := h9
    omega)
end Go.Proofs.Ytpicobmilcbmlaa
