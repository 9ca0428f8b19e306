import Derived.Test.YtckhliilndfljaaDoorSP6
namespace Go.Proofs.YtckhliilndfljaaDoor
open Go.ChangeShapes Go.WideShapes Go.ChangeAt Go.RowKit
set_option linter.unusedVariables false
set_option linter.unusedSimpArgs false

/-! ### the text of tokens -/
def lay (X : Nat → Tk) : Nat → Nat → Bs → Int → Int → Bs × Int
  | 0, _, txt, _, _ => (txt, 0)
  | m + 1, i, txt, line, col =>
    if (X i).col - (if 0 < (X i).line - line then 1 else col) > 65536 - (txt.length : Int) - ((X i).line - line) ∨ ((X i).text.length : Int) > 65536 - (txt.length : Int) - ((X i).line - line) - ((X i).col - (if 0 < (X i).line - line then 1 else col)) then ([], 30)
    else lay X m (i + 1) (txt ++ List.replicate ((X i).line - line).toNat 10 ++ List.replicate ((X i).col - (if 0 < (X i).line - line then 1 else col)).toNat 32 ++ (X i).text) (if 0 < (X i).line - line then (X i).line else line) ((X i).col + ((X i).text.length : Int))
/-- where the text ends -/
structure LI (X : Nat → Tk) (i : Nat) (txt : Bs) (line col : Int) : Prop where
  z : i = 0 → line = 1 ∧ col = 1
  s : i ≠ 0 → line = (X (i - 1)).line ∧ col = (X (i - 1)).col + ((X (i - 1)).text.length : Int)
  l : txt.length ≤ 65536
  c : 1 ≤ col ∧ col ≤ 1 + (txt.length : Int)
  n : 1 ≤ line ∧ line ≤ 9223372036854775807
theorem LI.room {X : Nat → Tk} {n i : Nat} {txt : Bs} {line col : Int} (h : LI X i txt line col) (hw : wfB X n = true) (hi : i < n) : 0 ≤ (X i).line - line ∧ 0 ≤ (X i).col - (if 0 < (X i).line - line then 1 else col) := by
  obtain ⟨h1, h2, _, h4⟩ := ok_al (wf_at hw hi)
  by_cases hi0 : i = 0
  · obtain ⟨e1, e2⟩ := h.z hi0
    rw [e1, e2]
    refine ⟨by omega, ?_⟩
    split <;> omega
  · obtain ⟨e1, e2⟩ := h.s hi0
    rcases h4 with h4 | h4
    · exact absurd h4 hi0
    · unfold flwB at h4
      by_cases hl : (X (i - 1)).line = (X i).line
      · rw [if_pos hl] at h4
        simp only [Bool.or_eq_true, Bool.and_eq_true, decide_eq_true_eq] at h4
        refine ⟨by omega, ?_⟩
        rw [if_neg (by omega)]
        rcases h4 with h4 | h4 <;> omega
      · rw [if_neg hl] at h4
        simp only [decide_eq_true_eq] at h4
        refine ⟨by omega, ?_⟩
        rw [if_pos (by omega)]
        omega
set_option maxRecDepth 100000 in
set_option maxHeartbeats 4000000 in
theorem layOut_any (p : Option Addr) (n cp : Nat) (X : Nat → Tk) (hn : n ≤ 1000000000000) (hr : ∀ i, i < n → TkR (X i)) (hw : wfB X n = true) (w : World) (hin : TX w p n X) : Calls Tryd.prog 14 #[.slice p n cp] w fun e w' => e = .returned (.tuple #[.string ⟨(lay X n 0 [] 1 1).1.toArray⟩, .int .i64 (lay X n 0 [] 1 1).2]) ∧ Below w.heap.size w w' := by
  have HI : Hid (TX w p n X) := hin
  have HR : Hid (∀ i, i < n → TkR (X i)) := hr
  have HWF : Hid (wfB X n = true) := hw
  obtain ⟨RS, hRS⟩ : ∃ RS, lay X n 0 [] 1 1 = RS := ⟨_, rfl⟩
  rw [hRS]
  have HRS : Hid (lay X n 0 [] 1 1 = RS) := hRS
  obtain ⟨wn, hwn⟩ : ∃ wn, w.alloc (.cells #[.pointer none, .slice none 0 0] 55) = wn := ⟨_, rfl⟩
  have HN : Hid (Bd w.heap.size w.heap.size [] wn ∧ Below w.heap.size w wn) := ⟨by rw [← hwn]; exact Bd.new w, by rw [← hwn]; exact (Below.refl _ w).alloc (Nat.le_refl _) _⟩
  clear hin hr hw hRS
  go_enter Tryd.func14, Tryd.ntmps14
  go_wp2
  try rw [hwn]
  clear hwn
  go_loopw [5, 6, 14] (fun v5 v6 v14 wr => ∃ (i : Nat) (txt : Bs) (line col : Int), v5 = .int .i64 line ∧ v6 = .int .i64 col ∧ v14 = .int .i64 (i : Int) ∧ i ≤ n ∧ Bd w.heap.size w.heap.size txt wr ∧ Below w.heap.size w wr ∧ LI X i txt line col ∧ lay X (n - i) i txt line col = RS) (fun _ _ v _ => n - (intOf v).toNat)
  case atStart => exact ⟨0, [], 1, 1, rfl, rfl, rfl, Nat.zero_le _, HN.out.1, HN.out.2, ⟨fun _ => ⟨rfl, rfl⟩, fun h => absurd rfl h, by simp, by simp, by omega⟩, HRS.out⟩
  case round =>
    clear HN
    obtain ⟨i, txt, line, col, rfl, rfl, rfl, hi, hbd, hbel, hli, hlay⟩ := hrel
    by_cases hlt : i < n
    case neg =>
      have dl : decide ((i : Int) < (n : Int)) = false := decide_eq_false (by omega)
      have dl2 : decide (i < n) = false := decide_eq_false hlt
      obtain rfl : i = n := by omega
      have HST : Hid (Calls Tryd.prog 25 #[.pointer (some ⟨w.heap.size, 0, none⟩)] wr fun e w' => e = .returned (.string ⟨txt.toArray⟩) ∧ Below w.heap.size wr w') := bString _ _ txt wr hbd hbel.size
      have HRE : Hid (RS = (txt, 0)) := by rw [Nat.sub_self] at hlay; exact hlay.symm
      have HBE : Hid (Below w.heap.size w wr) := hbel
      clear hlay hli hbd hbel
      go_wp2_with (go_at_call 25; (with_reducible refine (HST.out).mono ?_); rintro e w2 ⟨rfl, hb2⟩)
      go_ret2
      exact ⟨by rw [HRE.out]; first | rfl | simp, HBE.out.trans hb2⟩
    case pos =>
      have dl : decide ((i : Int) < (n : Int)) = true := decide_eq_true (by omega)
      have dl2 : decide (i < n) = true := decide_eq_true hlt
      have hm := measW hlt
      have i0 : (0 : Int) ≤ (i : Int) := by omega
      have i1 : (i : Int) < (n : Int) := by omega
      have ei : IntKind.i64.wrap ((i : Int) + 1) = ((i + 1 : Nat) : Int) := by rw [IntKind.wrap_i64]; omega
      obtain hx | ⟨b, o, rfl, hbl, hc⟩ := HI.out.below hbel
      · omega
      obtain ⟨x0, x1, x2, x3, x4⟩ := TX.at hc hlt
      obtain ⟨rm1, rm2⟩ := hli.room HWF.out hlt
      have htr := HR.out i hlt
      have hok := ok_al (wf_at HWF.out hlt)
      have hat := al_text hok.2.2.1
      rw [show n - i = (n - (i + 1)) + 1 by omega] at hlay
      unfold lay at hlay
      obtain ⟨t, hte⟩ : ∃ t, X i = t := ⟨_, rfl⟩
      rw [hte] at x0 x1 x2 x3 x4 rm1 rm2 htr hok hat hlay
      have HT : Hid (X i = t) := hte
      obtain ⟨lt, hltx⟩ : ∃ lt, t.text.length = lt := ⟨_, rfl⟩
      have htz : (⟨t.text.toArray⟩ : ByteArray).size = lt := by rw [← hltx]; simp [ByteArray.size]
      obtain ⟨lx, hlx⟩ : ∃ lx, txt.length = lx := ⟨_, rfl⟩
      have hlx2 := hli.l
      have hcc := hli.c
      have hnn := hli.n
      rw [hlx] at hlx2 hcc
      rw [hltx] at hat
      obtain ⟨ls, hls⟩ : ∃ ls : Nat, t.line - line = (ls : Int) := ⟨(t.line - line).toNat, by omega⟩
      rw [hls] at rm2 hlay
      obtain ⟨wx, hwx⟩ : ∃ wx, wr.alloc (.cells #[.int .i64 t.kind, .string ⟨t.text.toArray⟩, .int .u64 (t.num : Int), .int .i64 t.line, .int .i64 t.col] 34) = wx := ⟨_, rfl⟩
      have hbx : Below wr.heap.size wr wx := by rw [← hwx]; exact (Below.refl _ wr).alloc (Nat.le_refl _) _
      have hxb : wx.heap[wr.heap.size]? = some (.cells #[.int .i64 t.kind, .string ⟨t.text.toArray⟩, .int .u64 (t.num : Int), .int .i64 t.line, .int .i64 t.col] 34 (0, 0)) := by rw [← hwx]; exact World.alloc_heap_new wr _
      have hbw : Below w.heap.size w wx := hbel.trans (hbx.mono hbel.size)
      have hbdx : Bd w.heap.size w.heap.size txt wx := hbd.later hbx
      have hne : wr.heap.size ≠ w.heap.size := by have := hbd.lt; omega
      obtain ⟨y0, y1, y2, y3, y4⟩ := cells5 hxb
      have HL : Hid (Calls Tryd.prog 22 #[.pointer (some ⟨w.heap.size, 0, none⟩)] wx fun e w' => e = .returned (.int .i64 (lx : Int)) ∧ w' = wx) := by rw [← hlx]; exact bLen _ _ txt wx hbdx
      have HW : Hid (Below w.heap.size w wx ∧ wx.heap[wr.heap.size]? = some (.cells #[.int .i64 t.kind, .string ⟨t.text.toArray⟩, .int .u64 (t.num : Int), .int .i64 t.line, .int .i64 t.col] 34 (0, 0)) ∧ Bd w.heap.size w.heap.size txt wx ∧ wr.heap.size ≠ w.heap.size) := ⟨hbw, hxb, hbdx, hne⟩
      have eR : IntKind.i64.wrap ((65536 : Int) - (lx : Int)) = 65536 - (lx : Int) := by rw [IntKind.wrap_i64]; omega
      have eL : IntKind.i64.wrap (t.line - line) = (ls : Int) := by rw [hls, IntKind.wrap_i64]; have := htr.l; omega
      have hlsm : (ls : Int) ≤ 9223372036854775806 := by have := htr.l; omega
      have eRL : IntKind.i64.wrap ((65536 : Int) - (lx : Int) - (ls : Int)) = 65536 - (lx : Int) - (ls : Int) := by rw [IntKind.wrap_i64]; omega
      have HLI : Hid (LI X i txt line col) := hli
      have HC : Hid (t.col ≤ 9223372036854775807 ∧ 1 ≤ t.col ∧ t.line ≤ 9223372036854775807 ∧ lt ≤ 65536 ∧ 1 ≤ t.line) := ⟨htr.c.2, hok.2.1, htr.l.2, hat.2, hok.1⟩
      clear hbx hxb hbw hbdx hne hbd hbel hc hte hbl hli htr hok hat
      by_cases hls0 : 0 < ls
      case pos =>
        have d1 : decide ((0 : Int) < (ls : Int)) = true := decide_eq_true (by omega)
        have d1' : decide (0 < ls) = true := decide_eq_true hls0
        have hf1 : (if (0 : Int) < (ls : Int) then (1 : Int) else col) = 1 := if_pos (by omega)
        have hf2 : (if (0 : Int) < (ls : Int) then t.line else line) = t.line := if_pos (by omega)
        rw [hf1] at rm2
        rw [hf1, hf2] at hlay
        clear hf1 hf2
        obtain ⟨sp, hsp⟩ : ∃ sp : Nat, t.col - 1 = (sp : Int) := ⟨(t.col - 1).toNat, by omega⟩
        rw [hsp, hltx, hlx] at hlay
        have eS : IntKind.i64.wrap (t.col - 1) = (sp : Int) := by rw [hsp, IntKind.wrap_i64]; have := HC.out.1; omega
        clear rm1 rm2
        by_cases hC1 : (sp : Int) > 65536 - (lx : Int) - (ls : Int)
        · have e1 : decide (65536 - (lx : Int) - (ls : Int) < (sp : Int)) = true := decide_eq_true hC1
          have HRE : Hid (RS = ([], 30)) := by rw [if_pos (.inl hC1)] at hlay; exact hlay.symm
          clear hC1 hlay hls hsp hls0 hltx hlx
          go_wp2_with (go_at_call 22; (with_reducible refine (HL.out).mono ?_); rintro e w2 ⟨rfl, he2⟩; subst w2)
          go_ret2
          exact ⟨by rw [HRE.out]; first | rfl | simp, HW.out.1⟩
        · have e1 : decide (65536 - (lx : Int) - (ls : Int) < (sp : Int)) = false := decide_eq_false (by omega)
          have eQ : IntKind.i64.wrap (65536 - (lx : Int) - (ls : Int) - (sp : Int)) = 65536 - (lx : Int) - (ls : Int) - (sp : Int) := by rw [IntKind.wrap_i64]; omega
          by_cases hC2 : (lt : Int) > 65536 - (lx : Int) - (ls : Int) - (sp : Int)
          · have e2 : decide (65536 - (lx : Int) - (ls : Int) - (sp : Int) < (lt : Int)) = true := decide_eq_true hC2
            have HRE : Hid (RS = ([], 30)) := by rw [if_pos (.inr hC2)] at hlay; exact hlay.symm
            clear hC1 hC2 hlay hls hsp hls0 hltx hlx
            go_wp2_with (go_at_call 22; (with_reducible refine (HL.out).mono ?_); rintro e w2 ⟨rfl, he2⟩; subst w2)
            go_ret2
            exact ⟨by rw [HRE.out]; first | rfl | simp, HW.out.1⟩
          · have e2 : decide (65536 - (lx : Int) - (ls : Int) - (sp : Int) < (lt : Int)) = false := decide_eq_false (by omega)
            have eC : IntKind.i64.wrap (t.col + (lt : Int)) = t.col + (lt : Int) := by rw [IntKind.wrap_i64]; have := HC.out; omega
            rw [if_neg (by rintro (h | h) <;> omega), Int.toNat_natCast, Int.toNat_natCast] at hlay
            have HR1 : Hid (∀ W, Calls Tryd.prog 24 #[.string ⟨#[10]⟩, .int .i64 (ls : Int)] W fun e w' => e = .returned (.string ⟨(List.replicate ls 10).toArray⟩) ∧ Below W.heap.size W w') := fun W => sRep 10 ls W (by omega)
            have HR2 : Hid (∀ W, Calls Tryd.prog 24 #[.string ⟨#[32]⟩, .int .i64 (sp : Int)] W fun e w' => e = .returned (.string ⟨(List.replicate sp 32).toArray⟩) ∧ Below W.heap.size W w') := fun W => sRep 32 sp W (by omega)
            have HWR : Hid (∀ (W : World) (tx s : Bs), Bd w.heap.size w.heap.size tx W → tx.length ≤ 65536 → s.length ≤ 65536 → Below w.heap.size w W → W.heap[wr.heap.size]? = some (.cells #[.int .i64 t.kind, .string ⟨t.text.toArray⟩, .int .u64 (t.num : Int), .int .i64 t.line, .int .i64 t.col] 34 (0, 0)) → Calls Tryd.prog 23 #[.pointer (some ⟨w.heap.size, 0, none⟩), .string ⟨s.toArray⟩] W fun e w' => (∃ v9, e = .returned (.tuple #[.int .i64 v9, .nilIface])) ∧ Bd w.heap.size w.heap.size (tx ++ s) w' ∧ Below w.heap.size w w' ∧ w'.heap[wr.heap.size]? = some (.cells #[.int .i64 t.kind, .string ⟨t.text.toArray⟩, .int .u64 (t.num : Int), .int .i64 t.line, .int .i64 t.col] 34 (0, 0))) := fun W tx s h1 h2 h3 h4 h5 => (bWrite _ _ tx s W h1 (by omega) h4.size).mono fun e w' h9 => ⟨⟨_, h9.1⟩, h9.2.1, h4.trans h9.2.2.1, box_kept h9.2.2.2 h5 HW.out.2.2.2⟩
            have HNX : Hid (lay X (n - (i + 1)) (i + 1) (txt ++ List.replicate ls 10 ++ List.replicate sp 32 ++ t.text) t.line (t.col + (lt : Int)) = RS ∧ LI X (i + 1) (txt ++ List.replicate ls 10 ++ List.replicate sp 32 ++ t.text) t.line (t.col + (lt : Int)) ∧ (List.replicate ls (10 : UInt8)).length ≤ 65536 ∧ (List.replicate sp (32 : UInt8)).length ≤ 65536 ∧ (txt ++ List.replicate ls 10).length ≤ 65536 ∧ (txt ++ List.replicate ls 10 ++ List.replicate sp 32).length ≤ 65536 ∧ txt.length ≤ 65536 ∧ t.text.length ≤ 65536) := by
              have hhc := HC.out
              refine ⟨hlay, ⟨fun h => absurd h (by omega), fun _ => ?_, ?_, ?_, ?_⟩, by simp; omega, by simp; omega, by simp; omega, by simp; omega, by omega, by omega⟩
              · rw [show i + 1 - 1 = i by omega, HT.out, hltx]
                exact ⟨by omega, rfl⟩
              · simp
                omega
              · simp
                omega
              · omega
            clear hC1 hC2 hlay hls hsp hls0 hltx hlx
            obtain ⟨l10, hl10⟩ : ∃ l10 : Bs, List.replicate ls 10 = l10 := ⟨_, rfl⟩
            obtain ⟨l32, hl32⟩ : ∃ l32 : Bs, List.replicate sp 32 = l32 := ⟨_, rfl⟩
            rw [hl10] at HR1 HNX
            rw [hl32] at HR2 HNX
            clear hl10 hl32
            go_wp2_with (first
              | (go_at_call 22; (with_reducible refine (HL.out).mono ?_); rintro e w2 ⟨rfl, he2⟩; subst w2)
              | (go_at_call 24; (with_reducible refine (HR1.out _).mono ?_); rintro e w3 ⟨rfl, hb3⟩; have k3 := HW.out.2.2.1.later hb3; have bx3 := (hb3.block _ (Array.getElem?_eq_some_iff.1 HW.out.2.1).1).trans HW.out.2.1; have bw3 := HW.out.1.trans (hb3.mono HW.out.1.size))
              | (go_at_call 23; (with_reducible refine (HWR.out _ _ _ k3 HNX.out.2.2.2.2.2.2.1 HNX.out.2.2.1 bw3 bx3).mono ?_); rintro e w4 ⟨⟨v4, rfl⟩, k4, bw4, bx4⟩)
              | (go_at_call 24; (with_reducible refine (HR2.out _).mono ?_); rintro e w5 ⟨rfl, hb5⟩; have k5 := k4.later hb5; have bx5 := (hb5.block _ (Array.getElem?_eq_some_iff.1 bx4).1).trans bx4; have bw5 := bw4.trans (hb5.mono bw4.size))
              | (go_at_call 23; (with_reducible refine (HWR.out _ _ _ k5 HNX.out.2.2.2.2.1 HNX.out.2.2.2.1 bw5 bx5).mono ?_); rintro e w6 ⟨⟨v6', rfl⟩, k6, bw6, bx6⟩; obtain ⟨z0, z1, z2, z3, z4⟩ := cells5 bx6)
              | (go_at_call 23; (with_reducible refine (HWR.out _ _ _ k6 HNX.out.2.2.2.2.2.1 HNX.out.2.2.2.2.2.2.2 bw6 bx6).mono ?_); rintro e w7 ⟨⟨v7, rfl⟩, k7, bw7, bx7⟩; obtain ⟨q0, q1, q2, q3, q4⟩ := cells5 bx7))
            exact ⟨⟨i + 1, _, _, _, rfl, rfl, rfl, hlt, k7, bw7, HNX.out.2.1, HNX.out.1⟩, hm⟩
      case neg =>
        have d1 : decide ((0 : Int) < (ls : Int)) = false := decide_eq_false (by omega)
        have d1' : decide (0 < ls) = false := decide_eq_false hls0
        have hf1 : (if (0 : Int) < (ls : Int) then (1 : Int) else col) = col := if_neg (by omega)
        have hf2 : (if (0 : Int) < (ls : Int) then t.line else line) = line := if_neg (by omega)
        rw [hf1] at rm2
        rw [hf1, hf2] at hlay
        clear hf1 hf2
        obtain ⟨sp, hsp⟩ : ∃ sp : Nat, t.col - col = (sp : Int) := ⟨(t.col - col).toNat, by omega⟩
        rw [hsp, hltx, hlx] at hlay
        have eS : IntKind.i64.wrap (t.col - col) = (sp : Int) := by rw [hsp, IntKind.wrap_i64]; have := HC.out.1; omega
        clear rm1 rm2
        by_cases hC1 : (sp : Int) > 65536 - (lx : Int) - (ls : Int)
        · have e1 : decide (65536 - (lx : Int) - (ls : Int) < (sp : Int)) = true := decide_eq_true hC1
          have HRE : Hid (RS = ([], 30)) := by rw [if_pos (.inl hC1)] at hlay; exact hlay.symm
          clear hC1 hlay hls hsp hls0 hltx hlx
          go_wp2_with (go_at_call 22; (with_reducible refine (HL.out).mono ?_); rintro e w2 ⟨rfl, he2⟩; subst w2)
          go_ret2
          exact ⟨by rw [HRE.out]; first | rfl | simp, HW.out.1⟩
        · have e1 : decide (65536 - (lx : Int) - (ls : Int) < (sp : Int)) = false := decide_eq_false (by omega)
          have eQ : IntKind.i64.wrap (65536 - (lx : Int) - (ls : Int) - (sp : Int)) = 65536 - (lx : Int) - (ls : Int) - (sp : Int) := by rw [IntKind.wrap_i64]; omega
          by_cases hC2 : (lt : Int) > 65536 - (lx : Int) - (ls : Int) - (sp : Int)
          · have e2 : decide (65536 - (lx : Int) - (ls : Int) - (sp : Int) < (lt : Int)) = true := decide_eq_true hC2
            have HRE : Hid (RS = ([], 30)) := by rw [if_pos (.inr hC2)] at hlay; exact hlay.symm
            clear hC1 hC2 hlay hls hsp hls0 hltx hlx
            go_wp2_with (go_at_call 22; (with_reducible refine (HL.out).mono ?_); rintro e w2 ⟨rfl, he2⟩; subst w2)
            go_ret2
            exact ⟨by rw [HRE.out]; first | rfl | simp, HW.out.1⟩
          · have e2 : decide (65536 - (lx : Int) - (ls : Int) - (sp : Int) < (lt : Int)) = false := decide_eq_false (by omega)
            have eC : IntKind.i64.wrap (t.col + (lt : Int)) = t.col + (lt : Int) := by rw [IntKind.wrap_i64]; have := HC.out; omega
            rw [if_neg (by rintro (h | h) <;> omega), Int.toNat_natCast, Int.toNat_natCast] at hlay
            have HR1 : Hid (∀ W, Calls Tryd.prog 24 #[.string ⟨#[10]⟩, .int .i64 (ls : Int)] W fun e w' => e = .returned (.string ⟨(List.replicate ls 10).toArray⟩) ∧ Below W.heap.size W w') := fun W => sRep 10 ls W (by omega)
            have HR2 : Hid (∀ W, Calls Tryd.prog 24 #[.string ⟨#[32]⟩, .int .i64 (sp : Int)] W fun e w' => e = .returned (.string ⟨(List.replicate sp 32).toArray⟩) ∧ Below W.heap.size W w') := fun W => sRep 32 sp W (by omega)
            have HWR : Hid (∀ (W : World) (tx s : Bs), Bd w.heap.size w.heap.size tx W → tx.length ≤ 65536 → s.length ≤ 65536 → Below w.heap.size w W → W.heap[wr.heap.size]? = some (.cells #[.int .i64 t.kind, .string ⟨t.text.toArray⟩, .int .u64 (t.num : Int), .int .i64 t.line, .int .i64 t.col] 34 (0, 0)) → Calls Tryd.prog 23 #[.pointer (some ⟨w.heap.size, 0, none⟩), .string ⟨s.toArray⟩] W fun e w' => (∃ v9, e = .returned (.tuple #[.int .i64 v9, .nilIface])) ∧ Bd w.heap.size w.heap.size (tx ++ s) w' ∧ Below w.heap.size w w' ∧ w'.heap[wr.heap.size]? = some (.cells #[.int .i64 t.kind, .string ⟨t.text.toArray⟩, .int .u64 (t.num : Int), .int .i64 t.line, .int .i64 t.col] 34 (0, 0))) := fun W tx s h1 h2 h3 h4 h5 => (bWrite _ _ tx s W h1 (by omega) h4.size).mono fun e w' h9 => ⟨⟨_, h9.1⟩, h9.2.1, h4.trans h9.2.2.1, box_kept h9.2.2.2 h5 HW.out.2.2.2⟩
            have HNX : Hid (lay X (n - (i + 1)) (i + 1) (txt ++ List.replicate ls 10 ++ List.replicate sp 32 ++ t.text) line (t.col + (lt : Int)) = RS ∧ LI X (i + 1) (txt ++ List.replicate ls 10 ++ List.replicate sp 32 ++ t.text) line (t.col + (lt : Int)) ∧ (List.replicate ls (10 : UInt8)).length ≤ 65536 ∧ (List.replicate sp (32 : UInt8)).length ≤ 65536 ∧ (txt ++ List.replicate ls 10).length ≤ 65536 ∧ (txt ++ List.replicate ls 10 ++ List.replicate sp 32).length ≤ 65536 ∧ txt.length ≤ 65536 ∧ t.text.length ≤ 65536) := by
              have hhc := HC.out
              refine ⟨hlay, ⟨fun h => absurd h (by omega), fun _ => ?_, ?_, ?_, ?_⟩, by simp; omega, by simp; omega, by simp; omega, by simp; omega, by omega, by omega⟩
              · rw [show i + 1 - 1 = i by omega, HT.out, hltx]
                exact ⟨by omega, rfl⟩
              · simp
                omega
              · simp
                omega
              · omega
            clear hC1 hC2 hlay hls hsp hls0 hltx hlx
            obtain ⟨l10, hl10⟩ : ∃ l10 : Bs, List.replicate ls 10 = l10 := ⟨_, rfl⟩
            obtain ⟨l32, hl32⟩ : ∃ l32 : Bs, List.replicate sp 32 = l32 := ⟨_, rfl⟩
            rw [hl10] at HR1 HNX
            rw [hl32] at HR2 HNX
            clear hl10 hl32
            go_wp2_with (first
              | (go_at_call 22; (with_reducible refine (HL.out).mono ?_); rintro e w2 ⟨rfl, he2⟩; subst w2)
              | (go_at_call 24; (with_reducible refine (HR1.out _).mono ?_); rintro e w3 ⟨rfl, hb3⟩; have k3 := HW.out.2.2.1.later hb3; have bx3 := (hb3.block _ (Array.getElem?_eq_some_iff.1 HW.out.2.1).1).trans HW.out.2.1; have bw3 := HW.out.1.trans (hb3.mono HW.out.1.size))
              | (go_at_call 23; (with_reducible refine (HWR.out _ _ _ k3 HNX.out.2.2.2.2.2.2.1 HNX.out.2.2.1 bw3 bx3).mono ?_); rintro e w4 ⟨⟨v4, rfl⟩, k4, bw4, bx4⟩)
              | (go_at_call 24; (with_reducible refine (HR2.out _).mono ?_); rintro e w5 ⟨rfl, hb5⟩; have k5 := k4.later hb5; have bx5 := (hb5.block _ (Array.getElem?_eq_some_iff.1 bx4).1).trans bx4; have bw5 := bw4.trans (hb5.mono bw4.size))
              | (go_at_call 23; (with_reducible refine (HWR.out _ _ _ k5 HNX.out.2.2.2.2.1 HNX.out.2.2.2.1 bw5 bx5).mono ?_); rintro e w6 ⟨⟨v6', rfl⟩, k6, bw6, bx6⟩; obtain ⟨z0, z1, z2, z3, z4⟩ := cells5 bx6)
              | (go_at_call 23; (with_reducible refine (HWR.out _ _ _ k6 HNX.out.2.2.2.2.2.1 HNX.out.2.2.2.2.2.2.2 bw6 bx6).mono ?_); rintro e w7 ⟨⟨v7, rfl⟩, k7, bw7, bx7⟩; obtain ⟨q0, q1, q2, q3, q4⟩ := cells5 bx7))
            exact ⟨⟨i + 1, _, _, _, rfl, rfl, rfl, hlt, k7, bw7, HNX.out.2.1, HNX.out.1⟩, hm⟩
end Go.Proofs.YtckhliilndfljaaDoor
