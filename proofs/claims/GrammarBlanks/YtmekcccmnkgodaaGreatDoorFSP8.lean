import Derived.Test.YtmekcccmnkgodaaGreatDoorFSP5
import Derived.Test.YtmekcccmnkgodaaGreatDoorFSPZ
namespace Go.Proofs.YtmekcccmnkgodaaGreatDoor
open Go.ChangeShapes Go.WideShapes Go.ChangeAt Go.RowKit
set_option linter.unusedVariables false
set_option linter.unusedSimpArgs false

/-! ### strings.Builder and strings.Repeat, by their contracts -/
theorem laysBW : Lays.n166 Tryz.prog YtmekcccmnkgodaaGreatDoor.laysRp_ren := { mixed := YtmekcccmnkgodaaGreatDoor.laysRp.mixed, f166 := YtmekcccmnkgodaaGreatDoor.laysRp.f166, f240 := YtmekcccmnkgodaaGreatDoor.laysRp.f240, f276 := YtmekcccmnkgodaaGreatDoor.laysRp.f276, t0 := YtmekcccmnkgodaaGreatDoor.laysRp.t0, a0 := YtmekcccmnkgodaaGreatDoor.laysRp.a0, z0 := YtmekcccmnkgodaaGreatDoor.laysRp.z0, v0 := YtmekcccmnkgodaaGreatDoor.laysRp.v0, t3 := YtmekcccmnkgodaaGreatDoor.laysRp.t3, a3 := YtmekcccmnkgodaaGreatDoor.laysRp.a3, z3 := YtmekcccmnkgodaaGreatDoor.laysRp.z3, v3 := YtmekcccmnkgodaaGreatDoor.laysRp.v3, t4 := YtmekcccmnkgodaaGreatDoor.laysRp.t4, a4 := YtmekcccmnkgodaaGreatDoor.laysRp.a4, z4 := YtmekcccmnkgodaaGreatDoor.laysRp.z4, v4 := YtmekcccmnkgodaaGreatDoor.laysRp.v4, t9 := YtmekcccmnkgodaaGreatDoor.laysRp.t9, a9 := YtmekcccmnkgodaaGreatDoor.laysRp.a9, z9 := YtmekcccmnkgodaaGreatDoor.laysRp.z9, v9 := YtmekcccmnkgodaaGreatDoor.laysRp.v9, t20 := YtmekcccmnkgodaaGreatDoor.laysRp.t20, a20 := YtmekcccmnkgodaaGreatDoor.laysRp.a20, z20 := YtmekcccmnkgodaaGreatDoor.laysRp.z20, v20 := YtmekcccmnkgodaaGreatDoor.laysRp.v20, t37 := YtmekcccmnkgodaaGreatDoor.laysRp.t37, a37 := YtmekcccmnkgodaaGreatDoor.laysRp.a37, z37 := YtmekcccmnkgodaaGreatDoor.laysRp.z37, v37 := YtmekcccmnkgodaaGreatDoor.laysRp.v37, t70 := YtmekcccmnkgodaaGreatDoor.laysRp.t70, a70 := YtmekcccmnkgodaaGreatDoor.laysRp.a70, z70 := YtmekcccmnkgodaaGreatDoor.laysRp.z70, v70 := YtmekcccmnkgodaaGreatDoor.laysRp.v70, t72 := YtmekcccmnkgodaaGreatDoor.laysRp.t72, a72 := YtmekcccmnkgodaaGreatDoor.laysRp.a72, z72 := YtmekcccmnkgodaaGreatDoor.laysRp.z72, v72 := YtmekcccmnkgodaaGreatDoor.laysRp.v72, t75 := YtmekcccmnkgodaaGreatDoor.laysRp.t75, a75 := YtmekcccmnkgodaaGreatDoor.laysRp.a75, z75 := YtmekcccmnkgodaaGreatDoor.laysRp.z75, v75 := YtmekcccmnkgodaaGreatDoor.laysRp.v75, t164 := YtmekcccmnkgodaaGreatDoor.laysRp.t164, a164 := YtmekcccmnkgodaaGreatDoor.laysRp.a164, z164 := YtmekcccmnkgodaaGreatDoor.laysRp.z164, v164 := YtmekcccmnkgodaaGreatDoor.laysRp.v164 }
theorem xW : Builder.Extra Tryz.prog YtmekcccmnkgodaaGreatDoor.laysRp_ren := { sizeBuilder := by kernel_rfl, liesBuilder := by kernel_rfl, t5 := Tryz.underlying5, a5 := Tryz.isAgg5, z5 := Tryz.sizeOf5, v5 := Tryz.zeroValue5, infoByte := by kernel_rfl, cellsByte := by kernel_rfl, sizeByte := by kernel_rfl, neB5 := by decide }
theorem xS : Builder.Extra Tryz.prog YtmekcccmnkgodaaGreatDoor.laysBS_ren := { sizeBuilder := by kernel_rfl, liesBuilder := by kernel_rfl, t5 := Tryz.underlying5, a5 := Tryz.isAgg5, z5 := Tryz.sizeOf5, v5 := Tryz.zeroValue5, infoByte := by kernel_rfl, cellsByte := by kernel_rfl, sizeByte := by kernel_rfl, neB5 := by decide }
abbrev Bd (B b : Nat) (txt : Bs) (w : World) : Prop := Lib.IsBuilderF 102 5 B b (Lib.byteCells txt) w
theorem bLen (B b : Nat) (txt : Bs) (w : World) (h : Bd B b txt w) : Calls Tryz.prog 40 #[.pointer (some ⟨b, 0, none⟩)] w fun e w' => e = .returned (.int .i64 (txt.length : Int)) ∧ w' = w := by
  have h9 := Any.Builder_Len_f YtmekcccmnkgodaaGreatDoor.laysBL B b _ w h
  rw [Lib.byteCells_length] at h9
  exact h9
theorem bWrite (B b : Nat) (txt s : Bs) (w : World) (h : Bd B b txt w) (hlen : txt.length + s.length ≤ 140737488355328) (hB : B ≤ w.heap.size) : Calls Tryz.prog 41 #[.pointer (some ⟨b, 0, none⟩), .string ⟨s.toArray⟩] w fun e w' => e = .returned (.tuple #[.int .i64 (s.length : Int), .nilIface]) ∧ Bd B b (txt ++ s) w' ∧ Below B w w' ∧ Lib.OthersKept 5 (some b) w w' := by
  have hsz : (⟨s.toArray⟩ : ByteArray).size = s.length := by simp [ByteArray.size]
  have h9 := Any.Builder_WriteString_k laysBW xW B b _ ⟨s.toArray⟩ w h (by rw [Lib.byteCells_length, hsz]; exact hlen) hB
  refine h9.mono ?_
  rintro e w' ⟨rfl, h1, h2, h3⟩
  rw [hsz]
  refine ⟨rfl, .inr ?_, h2, h3⟩
  rw [Lib.byteCells_append]
  exact h1
theorem bString (B b : Nat) (txt : Bs) (w : World) (h : Bd B b txt w) (hB : B ≤ w.heap.size) : Calls Tryz.prog 43 #[.pointer (some ⟨b, 0, none⟩)] w fun e w' => e = .returned (.string ⟨txt.toArray⟩) ∧ Below B w w' :=
  (Any.Builder_String_any_f YtmekcccmnkgodaaGreatDoor.laysBS xS B b txt w h hB).mono fun e w' h9 => ⟨h9.1, h9.2.2⟩
theorem rep_one (c : UInt8) : ∀ n, Lib.repeatL [c] n = List.replicate n c
  | 0 => rfl
  | n + 1 => by
    show [c] ++ Lib.repeatL [c] n = _
    rw [rep_one c n]
    rfl
theorem sRep (c : UInt8) (n : Nat) (w : World) (hn : n ≤ 140737488355328) : Calls Tryz.prog 42 #[.string ⟨#[c]⟩, .int .i64 (n : Int)] w fun e w' => e = .returned (.string ⟨(List.replicate n c).toArray⟩) ∧ Below w.heap.size w w' := by
  have hsz : (⟨#[c]⟩ : ByteArray).size = 1 := rfl
  have h9 := Any.strings_Repeat YtmekcccmnkgodaaGreatDoor.laysRp xW ⟨#[c]⟩ n w (by omega) (by rw [hsz]; omega)
  refine h9.mono ?_
  rintro e w' ⟨rfl, h1⟩
  refine ⟨?_, h1⟩
  rw [← rep_one]
theorem Bd.later {B b : Nat} {txt : Bs} {w w' : World} (h : Bd B b txt w) (hb : Below w.heap.size w w') : Bd B b txt w' := by
  have key : ∀ p, Lib.BuilderAtF 102 5 B b p (Lib.byteCells txt) w → Lib.BuilderAtF 102 5 B b p (Lib.byteCells txt) w' := by
    rintro p ⟨h1, v, h2, h3, h4⟩
    refine ⟨h1, v, (hb.block b (Array.getElem?_eq_some_iff.1 h2).1).trans h2, ?_, h4⟩
    refine ⟨h3.1, ?_⟩
    rcases h3.2 with h5 | ⟨g, cap, cur, fz, e1, e2, e3, e4⟩
    · exact .inl h5
    · exact .inr ⟨g, cap, cur, fz, e1, e2, (hb.block g (Array.getElem?_eq_some_iff.1 e3).1).trans e3, e4⟩
  rcases h with h | h
  · exact .inl (key _ h)
  · exact .inr (key _ h)
theorem Bd.lt {B b : Nat} {txt : Bs} {w : World} (h : Bd B b txt w) : B ≤ b ∧ b < w.heap.size := by
  rcases h with ⟨h1, v, h2, _⟩ | ⟨h1, v, h2, _⟩ <;> exact ⟨h1, (Array.getElem?_eq_some_iff.1 h2).1⟩
theorem Bd.new (w : World) : Bd w.heap.size w.heap.size [] (w.alloc (.cells #[.pointer none, .slice none 0 0] 102)) := Lib.IsBuilderF.of (Lib.fresh_isBuilder _ _ w)
/-- a token's box stays -/
theorem box_kept {b k : Nat} {w w' : World} {cs : Array Value} (h : Lib.OthersKept 5 (some b) w w') (hk : w.heap[k]? = some (.cells cs 40 (0, 0))) (hne : k ≠ b) : w'.heap[k]? = some (.cells cs 40 (0, 0)) :=
  h k _ hk (by intro e; injection e with e; exact hne e) (fun c fz e => by injection e with _ e _; revert e; decide)
end Go.Proofs.YtmekcccmnkgodaaGreatDoor
namespace Go.Proofs.YtmekcccmnkgodaaGreatDoor
open Go.ChangeShapes Go.WideShapes Go.ChangeAt Go.RowKit
set_option linter.unusedVariables false
set_option linter.unusedSimpArgs false

/-! ### the text of tokens -/
def lay (X : Nat → Tk) : Nat → Nat → Bs → Int → Int → Bs × Int
  | 0, _, txt, _, _ => (txt, 0)
  | m + 1, i, txt, line, col =>
    if (X i).col - (if 0 < (X i).line - line then 1 else col) > 65536 - (txt.length : Int) - ((X i).line - line) ∨ ((X i).text.length : Int) > 65536 - (txt.length : Int) - ((X i).line - line) - ((X i).col - (if 0 < (X i).line - line then 1 else col)) then ([], 30)
    else lay X m (i + 1) (txt ++ List.replicate ((X i).line - line).toNat 10 ++ List.replicate ((X i).col - (if 0 < (X i).line - line then 1 else col)).toNat 32 ++ (X i).text) (if 0 < (X i).line - line then (X i).line else line) ((X i).col + ((X i).text.length : Int))
/-- where the text ends -/
structure LI (X : Nat → Tk) (i : Nat) (txt : Bs) (line col : Int) : Prop where
  z : i = 0 → line = 1 ∧ col = 1
  s : i ≠ 0 → line = (X (i - 1)).line ∧ col = (X (i - 1)).col + ((X (i - 1)).text.length : Int)
  l : txt.length ≤ 65536
  c : 1 ≤ col ∧ col ≤ 1 + (txt.length : Int)
  n : 1 ≤ line ∧ line ≤ 9223372036854775807
theorem LI.room {X : Nat → Tk} {n i : Nat} {txt : Bs} {line col : Int} (h : LI X i txt line col) (hw : wfB X n = true) (hi : i < n) : 0 ≤ (X i).line - line ∧ 0 ≤ (X i).col - (if 0 < (X i).line - line then 1 else col) := by
  obtain ⟨h1, h2, _, h4⟩ := ok_al (wf_at hw hi)
  by_cases hi0 : i = 0
  · obtain ⟨e1, e2⟩ := h.z hi0
    rw [e1, e2]
    refine ⟨by omega, ?_⟩
    split <;> omega
  · obtain ⟨e1, e2⟩ := h.s hi0
    rcases h4 with h4 | h4
    · exact absurd h4 hi0
    · unfold flwB at h4
      by_cases hl : (X (i - 1)).line = (X i).line
      · rw [if_pos hl] at h4
        simp only [Bool.or_eq_true, Bool.and_eq_true, decide_eq_true_eq] at h4
        refine ⟨by omega, ?_⟩
        rw [if_neg (by omega)]
        rcases h4 with h4 | h4 <;> omega
      · rw [if_neg hl] at h4
        simp only [decide_eq_true_eq] at h4
        refine ⟨by omega, ?_⟩
        rw [if_pos (by omega)]
        omega
set_option maxRecDepth 100000 in
set_option maxHeartbeats 4000000 in
theorem layOut_any (p : Option Addr) (n cp : Nat) (X : Nat → Tk) (hn : n ≤ 1000000000000) (hr : ∀ i, i < n → TkR (X i)) (hw : wfB X n = true) (w : World) (hin : TX w p n X) : Calls Tryz.prog 28 #[.slice p n cp] w fun e w' => e = .returned (.tuple #[.string ⟨(lay X n 0 [] 1 1).1.toArray⟩, .int .i64 (lay X n 0 [] 1 1).2]) ∧ Below w.heap.size w w' := by
  have HI : Hid (TX w p n X) := hin
  have HR : Hid (∀ i, i < n → TkR (X i)) := hr
  have HWF : Hid (wfB X n = true) := hw
  obtain ⟨RS, hRS⟩ : ∃ RS, lay X n 0 [] 1 1 = RS := ⟨_, rfl⟩
  rw [hRS]
  have HRS : Hid (lay X n 0 [] 1 1 = RS) := hRS
  obtain ⟨wn, hwn⟩ : ∃ wn, w.alloc (.cells #[.pointer none, .slice none 0 0] 102) = wn := ⟨_, rfl⟩
  have HN : Hid (Bd w.heap.size w.heap.size [] wn ∧ Below w.heap.size w wn) := ⟨by rw [← hwn]; exact Bd.new w, by rw [← hwn]; exact (Below.refl _ w).alloc (Nat.le_refl _) _⟩
  clear hin hr hw hRS
  go_enter Tryz.func28, Tryz.ntmps28
  go_wp2
  try rw [hwn]
  clear hwn
  go_loopw [5, 6, 14] (fun v5 v6 v14 wr => ∃ (i : Nat) (txt : Bs) (line col : Int), v5 = .int .i64 line ∧ v6 = .int .i64 col ∧ v14 = .int .i64 (i : Int) ∧ i ≤ n ∧ Bd w.heap.size w.heap.size txt wr ∧ Below w.heap.size w wr ∧ LI X i txt line col ∧ lay X (n - i) i txt line col = RS) (fun _ _ v _ => n - (intOf v).toNat)
  case atStart => exact ⟨0, [], 1, 1, rfl, rfl, rfl, Nat.zero_le _, HN.out.1, HN.out.2, ⟨fun _ => ⟨rfl, rfl⟩, fun h => absurd rfl h, by simp, by simp, by omega⟩, HRS.out⟩
  case round =>
    clear HN
    obtain ⟨i, txt, line, col, rfl, rfl, rfl, hi, hbd, hbel, hli, hlay⟩ := hrel
    by_cases hlt : i < n
    case neg =>
      have dl : decide ((i : Int) < (n : Int)) = false := decide_eq_false (by omega)
      have dl2 : decide (i < n) = false := decide_eq_false hlt
      obtain rfl : i = n := by omega
      have HST : Hid (Calls Tryz.prog 43 #[.pointer (some ⟨w.heap.size, 0, none⟩)] wr fun e w' => e = .returned (.string ⟨txt.toArray⟩) ∧ Below w.heap.size wr w') := bString _ _ txt wr hbd hbel.size
      have HRE : Hid (RS = (txt, 0)) := by rw [Nat.sub_self] at hlay; exact hlay.symm
      have HBE : Hid (Below w.heap.size w wr) := hbel
      clear hlay hli hbd hbel
      go_wp2_with (go_at_call 43; (with_reducible refine (HST.out).mono ?_); rintro e w2 ⟨rfl, hb2⟩)
      go_ret2
      exact ⟨by rw [HRE.out]; first | rfl | simp, HBE.out.trans hb2⟩
    case pos =>
      have dl : decide ((i : Int) < (n : Int)) = true := decide_eq_true (by omega)
      have dl2 : decide (i < n) = true := decide_eq_true hlt
      have hm := measW hlt
      have i0 : (0 : Int) ≤ (i : Int) := by omega
      have i1 : (i : Int) < (n : Int) := by omega
      have ei : IntKind.i64.wrap ((i : Int) + 1) = ((i + 1 : Nat) : Int) := by rw [IntKind.wrap_i64]; omega
      obtain hx | ⟨b, o, rfl, hbl, hc⟩ := HI.out.below hbel
      · omega
      obtain ⟨x0, x1, x2, x3, x4⟩ := TX.at hc hlt
      obtain ⟨rm1, rm2⟩ := hli.room HWF.out hlt
      have htr := HR.out i hlt
      have hok := ok_al (wf_at HWF.out hlt)
      have hat := al_text hok.2.2.1
      rw [show n - i = (n - (i + 1)) + 1 by omega] at hlay
      unfold lay at hlay
      obtain ⟨t, hte⟩ : ∃ t, X i = t := ⟨_, rfl⟩
      rw [hte] at x0 x1 x2 x3 x4 rm1 rm2 htr hok hat hlay
      have HT : Hid (X i = t) := hte
      obtain ⟨lt, hltx⟩ : ∃ lt, t.text.length = lt := ⟨_, rfl⟩
      have htz : (⟨t.text.toArray⟩ : ByteArray).size = lt := by rw [← hltx]; simp [ByteArray.size]
      obtain ⟨lx, hlx⟩ : ∃ lx, txt.length = lx := ⟨_, rfl⟩
      have hlx2 := hli.l
      have hcc := hli.c
      have hnn := hli.n
      rw [hlx] at hlx2 hcc
      rw [hltx] at hat
      obtain ⟨ls, hls⟩ : ∃ ls : Nat, t.line - line = (ls : Int) := ⟨(t.line - line).toNat, by omega⟩
      rw [hls] at rm2 hlay
      obtain ⟨wx, hwx⟩ : ∃ wx, wr.alloc (.cells #[.int .i64 t.kind, .string ⟨t.text.toArray⟩, .int .u64 (t.num : Int), .int .i64 t.line, .int .i64 t.col] 40) = wx := ⟨_, rfl⟩
      have hbx : Below wr.heap.size wr wx := by rw [← hwx]; exact (Below.refl _ wr).alloc (Nat.le_refl _) _
      have hxb : wx.heap[wr.heap.size]? = some (.cells #[.int .i64 t.kind, .string ⟨t.text.toArray⟩, .int .u64 (t.num : Int), .int .i64 t.line, .int .i64 t.col] 40 (0, 0)) := by rw [← hwx]; exact World.alloc_heap_new wr _
      have hbw : Below w.heap.size w wx := hbel.trans (hbx.mono hbel.size)
      have hbdx : Bd w.heap.size w.heap.size txt wx := hbd.later hbx
      have hne : wr.heap.size ≠ w.heap.size := by have := hbd.lt; omega
      obtain ⟨y0, y1, y2, y3, y4⟩ := cells5 hxb
      have HL : Hid (Calls Tryz.prog 40 #[.pointer (some ⟨w.heap.size, 0, none⟩)] wx fun e w' => e = .returned (.int .i64 (lx : Int)) ∧ w' = wx) := by rw [← hlx]; exact bLen _ _ txt wx hbdx
      have HW : Hid (Below w.heap.size w wx ∧ wx.heap[wr.heap.size]? = some (.cells #[.int .i64 t.kind, .string ⟨t.text.toArray⟩, .int .u64 (t.num : Int), .int .i64 t.line, .int .i64 t.col] 40 (0, 0)) ∧ Bd w.heap.size w.heap.size txt wx ∧ wr.heap.size ≠ w.heap.size) := ⟨hbw, hxb, hbdx, hne⟩
      have eR : IntKind.i64.wrap ((65536 : Int) - (lx : Int)) = 65536 - (lx : Int) := by rw [IntKind.wrap_i64]; omega
      have eL : IntKind.i64.wrap (t.line - line) = (ls : Int) := by rw [hls, IntKind.wrap_i64]; have := htr.l; omega
      have hlsm : (ls : Int) ≤ 9223372036854775806 := by have := htr.l; omega
      have eRL : IntKind.i64.wrap ((65536 : Int) - (lx : Int) - (ls : Int)) = 65536 - (lx : Int) - (ls : Int) := by rw [IntKind.wrap_i64]; omega
      have HLI : Hid (LI X i txt line col) := hli
      have HC : Hid (t.col ≤ 9223372036854775807 ∧ 1 ≤ t.col ∧ t.line ≤ 9223372036854775807 ∧ lt ≤ 65536 ∧ 1 ≤ t.line) := ⟨htr.c.2, hok.2.1, htr.l.2, hat.2, hok.1⟩
      clear hbx hxb hbw hbdx hne hbd hbel hc hte hbl hli htr hok hat
      by_cases hls0 : 0 < ls
      case pos =>
        have d1 : decide ((0 : Int) < (ls : Int)) = true := decide_eq_true (by omega)
        have d1' : decide (0 < ls) = true := decide_eq_true hls0
        have hf1 : (if (0 : Int) < (ls : Int) then (1 : Int) else col) = 1 := if_pos (by omega)
        have hf2 : (if (0 : Int) < (ls : Int) then t.line else line) = t.line := if_pos (by omega)
        rw [hf1] at rm2
        rw [hf1, hf2] at hlay
        clear hf1 hf2
        obtain ⟨sp, hsp⟩ : ∃ sp : Nat, t.col - 1 = (sp : Int) := ⟨(t.col - 1).toNat, by omega⟩
        rw [hsp, hltx, hlx] at hlay
        have eS : IntKind.i64.wrap (t.col - 1) = (sp : Int) := by rw [hsp, IntKind.wrap_i64]; have := HC.out.1; omega
        clear rm1 rm2
        by_cases hC1 : (sp : Int) > 65536 - (lx : Int) - (ls : Int)
        · have e1 : decide (65536 - (lx : Int) - (ls : Int) < (sp : Int)) = true := decide_eq_true hC1
          have HRE : Hid (RS = ([], 30)) := by rw [if_pos (.inl hC1)] at hlay; exact hlay.symm
          clear hC1 hlay hls hsp hls0 hltx hlx
          go_wp2_with (go_at_call 40; (with_reducible refine (HL.out).mono ?_); rintro e w2 ⟨rfl, he2⟩; subst w2)
          go_ret2
          exact ⟨by rw [HRE.out]; first | rfl | simp, HW.out.1⟩
        · have e1 : decide (65536 - (lx : Int) - (ls : Int) < (sp : Int)) = false := decide_eq_false (by omega)
          have eQ : IntKind.i64.wrap (65536 - (lx : Int) - (ls : Int) - (sp : Int)) = 65536 - (lx : Int) - (ls : Int) - (sp : Int) := by rw [IntKind.wrap_i64]; omega
          by_cases hC2 : (lt : Int) > 65536 - (lx : Int) - (ls : Int) - (sp : Int)
          · have e2 : decide (65536 - (lx : Int) - (ls : Int) - (sp : Int) < (lt : Int)) = true := decide_eq_true hC2
            have HRE : Hid (RS = ([], 30)) := by rw [if_pos (.inr hC2)] at hlay; exact hlay.symm
            clear hC1 hC2 hlay hls hsp hls0 hltx hlx
            go_wp2_with (go_at_call 40; (with_reducible refine (HL.out).mono ?_); rintro e w2 ⟨rfl, he2⟩; subst w2)
            go_ret2
            exact ⟨by rw [HRE.out]; first | rfl | simp, HW.out.1⟩
          · have e2 : decide (65536 - (lx : Int) - (ls : Int) - (sp : Int) < (lt : Int)) = false := decide_eq_false (by omega)
            have eC : IntKind.i64.wrap (t.col + (lt : Int)) = t.col + (lt : Int) := by rw [IntKind.wrap_i64]; have := HC.out; omega
            rw [if_neg (by rintro (h | h) <;> omega), Int.toNat_natCast, Int.toNat_natCast] at hlay
            have HR1 : Hid (∀ W, Calls Tryz.prog 42 #[.string ⟨#[10]⟩, .int .i64 (ls : Int)] W fun e w' => e = .returned (.string ⟨(List.replicate ls 10).toArray⟩) ∧ Below W.heap.size W w') := fun W => sRep 10 ls W (by omega)
            have HR2 : Hid (∀ W, Calls Tryz.prog 42 #[.string ⟨#[32]⟩, .int .i64 (sp : Int)] W fun e w' => e = .returned (.string ⟨(List.replicate sp 32).toArray⟩) ∧ Below W.heap.size W w') := fun W => sRep 32 sp W (by omega)
            have HWR : Hid (∀ (W : World) (tx s : Bs), Bd w.heap.size w.heap.size tx W → tx.length ≤ 65536 → s.length ≤ 65536 → Below w.heap.size w W → W.heap[wr.heap.size]? = some (.cells #[.int .i64 t.kind, .string ⟨t.text.toArray⟩, .int .u64 (t.num : Int), .int .i64 t.line, .int .i64 t.col] 40 (0, 0)) → Calls Tryz.prog 41 #[.pointer (some ⟨w.heap.size, 0, none⟩), .string ⟨s.toArray⟩] W fun e w' => (∃ v9, e = .returned (.tuple #[.int .i64 v9, .nilIface])) ∧ Bd w.heap.size w.heap.size (tx ++ s) w' ∧ Below w.heap.size w w' ∧ w'.heap[wr.heap.size]? = some (.cells #[.int .i64 t.kind, .string ⟨t.text.toArray⟩, .int .u64 (t.num : Int), .int .i64 t.line, .int .i64 t.col] 40 (0, 0))) := fun W tx s h1 h2 h3 h4 h5 => (bWrite _ _ tx s W h1 (by omega) h4.size).mono fun e w' h9 => ⟨⟨_, h9.1⟩, h9.2.1, h4.trans h9.2.2.1, box_kept h9.2.2.2 h5 HW.out.2.2.2⟩
            have HNX : Hid (lay X (n - (i + 1)) (i + 1) (txt ++ List.replicate ls 10 ++ List.replicate sp 32 ++ t.text) t.line (t.col + (lt : Int)) = RS ∧ LI X (i + 1) (txt ++ List.replicate ls 10 ++ List.replicate sp 32 ++ t.text) t.line (t.col + (lt : Int)) ∧ (List.replicate ls (10 : UInt8)).length ≤ 65536 ∧ (List.replicate sp (32 : UInt8)).length ≤ 65536 ∧ (txt ++ List.replicate ls 10).length ≤ 65536 ∧ (txt ++ List.replicate ls 10 ++ List.replicate sp 32).length ≤ 65536 ∧ txt.length ≤ 65536 ∧ t.text.length ≤ 65536) := by
              have hhc := HC.out
              refine ⟨hlay, ⟨fun h => absurd h (by omega), fun _ => ?_, ?_, ?_, ?_⟩, by simp; omega, by simp; omega, by simp; omega, by simp; omega, by omega, by omega⟩
              · rw [show i + 1 - 1 = i by omega, HT.out, hltx]
                exact ⟨by omega, rfl⟩
              · simp
                omega
              · simp
                omega
              · omega
            clear hC1 hC2 hlay hls hsp hls0 hltx hlx
            obtain ⟨l10, hl10⟩ : ∃ l10 : Bs, List.replicate ls 10 = l10 := ⟨_, rfl⟩
            obtain ⟨l32, hl32⟩ : ∃ l32 : Bs, List.replicate sp 32 = l32 := ⟨_, rfl⟩
            rw [hl10] at HR1 HNX
            rw [hl32] at HR2 HNX
            clear hl10 hl32
            go_wp2_with (first
              | (go_at_call 40; (with_reducible refine (HL.out).mono ?_); rintro e w2 ⟨rfl, he2⟩; subst w2)
              | (go_at_call 42; (with_reducible refine (HR1.out _).mono ?_); rintro e w3 ⟨rfl, hb3⟩; have k3 := HW.out.2.2.1.later hb3; have bx3 := (hb3.block _ (Array.getElem?_eq_some_iff.1 HW.out.2.1).1).trans HW.out.2.1; have bw3 := HW.out.1.trans (hb3.mono HW.out.1.size))
              | (go_at_call 41; (with_reducible refine (HWR.out _ _ _ k3 HNX.out.2.2.2.2.2.2.1 HNX.out.2.2.1 bw3 bx3).mono ?_); rintro e w4 ⟨⟨v4, rfl⟩, k4, bw4, bx4⟩)
              | (go_at_call 42; (with_reducible refine (HR2.out _).mono ?_); rintro e w5 ⟨rfl, hb5⟩; have k5 := k4.later hb5; have bx5 := (hb5.block _ (Array.getElem?_eq_some_iff.1 bx4).1).trans bx4; have bw5 := bw4.trans (hb5.mono bw4.size))
              | (go_at_call 41; (with_reducible refine (HWR.out _ _ _ k5 HNX.out.2.2.2.2.1 HNX.out.2.2.2.1 bw5 bx5).mono ?_); rintro e w6 ⟨⟨v6', rfl⟩, k6, bw6, bx6⟩; obtain ⟨z0, z1, z2, z3, z4⟩ := cells5 bx6)
              | (go_at_call 41; (with_reducible refine (HWR.out _ _ _ k6 HNX.out.2.2.2.2.2.1 HNX.out.2.2.2.2.2.2.2 bw6 bx6).mono ?_); rintro e w7 ⟨⟨v7, rfl⟩, k7, bw7, bx7⟩; obtain ⟨q0, q1, q2, q3, q4⟩ := cells5 bx7))
            exact ⟨⟨i + 1, _, _, _, rfl, rfl, rfl, hlt, k7, bw7, HNX.out.2.1, HNX.out.1⟩, hm⟩
      case neg =>
        have d1 : decide ((0 : Int) < (ls : Int)) = false := decide_eq_false (by omega)
        have d1' : decide (0 < ls) = false := decide_eq_false hls0
        have hf1 : (if (0 : Int) < (ls : Int) then (1 : Int) else col) = col := if_neg (by omega)
        have hf2 : (if (0 : Int) < (ls : Int) then t.line else line) = line := if_neg (by omega)
        rw [hf1] at rm2
        rw [hf1, hf2] at hlay
        clear hf1 hf2
        obtain ⟨sp, hsp⟩ : ∃ sp : Nat, t.col - col = (sp : Int) := ⟨(t.col - col).toNat, by omega⟩
        rw [hsp, hltx, hlx] at hlay
        have eS : IntKind.i64.wrap (t.col - col) = (sp : Int) := by rw [hsp, IntKind.wrap_i64]; have := HC.out.1; omega
        clear rm1 rm2
        by_cases hC1 : (sp : Int) > 65536 - (lx : Int) - (ls : Int)
        · have e1 : decide (65536 - (lx : Int) - (ls : Int) < (sp : Int)) = true := decide_eq_true hC1
          have HRE : Hid (RS = ([], 30)) := by rw [if_pos (.inl hC1)] at hlay; exact hlay.symm
          clear hC1 hlay hls hsp hls0 hltx hlx
          go_wp2_with (go_at_call 40; (with_reducible refine (HL.out).mono ?_); rintro e w2 ⟨rfl, he2⟩; subst w2)
          go_ret2
          exact ⟨by rw [HRE.out]; first | rfl | simp, HW.out.1⟩
        · have e1 : decide (65536 - (lx : Int) - (ls : Int) < (sp : Int)) = false := decide_eq_false (by omega)
          have eQ : IntKind.i64.wrap (65536 - (lx : Int) - (ls : Int) - (sp : Int)) = 65536 - (lx : Int) - (ls : Int) - (sp : Int) := by rw [IntKind.wrap_i64]; omega
          by_cases hC2 : (lt : Int) > 65536 - (lx : Int) - (ls : Int) - (sp : Int)
          · have e2 : decide (65536 - (lx : Int) - (ls : Int) - (sp : Int) < (lt : Int)) = true := decide_eq_true hC2
            have HRE : Hid (RS = ([], 30)) := by rw [if_pos (.inr hC2)] at hlay; exact hlay.symm
            clear hC1 hC2 hlay hls hsp hls0 hltx hlx
            go_wp2_with (go_at_call 40; (with_reducible refine (HL.out).mono ?_); rintro e w2 ⟨rfl, he2⟩; subst w2)
            go_ret2
            exact ⟨by rw [HRE.out]; first | rfl | simp, HW.out.1⟩
          · have e2 : decide (65536 - (lx : Int) - (ls : Int) - (sp : Int) < (lt : Int)) = false := decide_eq_false (by omega)
            have eC : IntKind.i64.wrap (t.col + (lt : Int)) = t.col + (lt : Int) := by rw [IntKind.wrap_i64]; have := HC.out; omega
            rw [if_neg (by rintro (h | h) <;> omega), Int.toNat_natCast, Int.toNat_natCast] at hlay
            have HR1 : Hid (∀ W, Calls Tryz.prog 42 #[.string ⟨#[10]⟩, .int .i64 (ls : Int)] W fun e w' => e = .returned (.string ⟨(List.replicate ls 10).toArray⟩) ∧ Below W.heap.size W w') := fun W => sRep 10 ls W (by omega)
            have HR2 : Hid (∀ W, Calls Tryz.prog 42 #[.string ⟨#[32]⟩, .int .i64 (sp : Int)] W fun e w' => e = .returned (.string ⟨(List.replicate sp 32).toArray⟩) ∧ Below W.heap.size W w') := fun W => sRep 32 sp W (by omega)
            have HWR : Hid (∀ (W : World) (tx s : Bs), Bd w.heap.size w.heap.size tx W → tx.length ≤ 65536 → s.length ≤ 65536 → Below w.heap.size w W → W.heap[wr.heap.size]? = some (.cells #[.int .i64 t.kind, .string ⟨t.text.toArray⟩, .int .u64 (t.num : Int), .int .i64 t.line, .int .i64 t.col] 40 (0, 0)) → Calls Tryz.prog 41 #[.pointer (some ⟨w.heap.size, 0, none⟩), .string ⟨s.toArray⟩] W fun e w' => (∃ v9, e = .returned (.tuple #[.int .i64 v9, .nilIface])) ∧ Bd w.heap.size w.heap.size (tx ++ s) w' ∧ Below w.heap.size w w' ∧ w'.heap[wr.heap.size]? = some (.cells #[.int .i64 t.kind, .string ⟨t.text.toArray⟩, .int .u64 (t.num : Int), .int .i64 t.line, .int .i64 t.col] 40 (0, 0))) := fun W tx s h1 h2 h3 h4 h5 => (bWrite _ _ tx s W h1 (by omega) h4.size).mono fun e w' h9 => ⟨⟨_, h9.1⟩, h9.2.1, h4.trans h9.2.2.1, box_kept h9.2.2.2 h5 HW.out.2.2.2⟩
            have HNX : Hid (lay X (n - (i + 1)) (i + 1) (txt ++ List.replicate ls 10 ++ List.replicate sp 32 ++ t.text) line (t.col + (lt : Int)) = RS ∧ LI X (i + 1) (txt ++ List.replicate ls 10 ++ List.replicate sp 32 ++ t.text) line (t.col + (lt : Int)) ∧ (List.replicate ls (10 : UInt8)).length ≤ 65536 ∧ (List.replicate sp (32 : UInt8)).length ≤ 65536 ∧ (txt ++ List.replicate ls 10).length ≤ 65536 ∧ (txt ++ List.replicate ls 10 ++ List.replicate sp 32).length ≤ 65536 ∧ txt.length ≤ 65536 ∧ t.text.length ≤ 65536) := by
              have hhc := HC.out
              refine ⟨hlay, ⟨fun h => absurd h (by omega), fun _ => ?_, ?_, ?_, ?_⟩, by simp; omega, by simp; omega, by simp; omega, by simp; omega, by omega, by omega⟩
              · rw [show i + 1 - 1 = i by omega, HT.out, hltx]
                exact ⟨by omega, rfl⟩
              · simp
                omega
              · simp
                omega
              · omega
            clear hC1 hC2 hlay hls hsp hls0 hltx hlx
            obtain ⟨l10, hl10⟩ : ∃ l10 : Bs, List.replicate ls 10 = l10 := ⟨_, rfl⟩
            obtain ⟨l32, hl32⟩ : ∃ l32 : Bs, List.replicate sp 32 = l32 := ⟨_, rfl⟩
            rw [hl10] at HR1 HNX
            rw [hl32] at HR2 HNX
            clear hl10 hl32
            go_wp2_with (first
              | (go_at_call 40; (with_reducible refine (HL.out).mono ?_); rintro e w2 ⟨rfl, he2⟩; subst w2)
              | (go_at_call 42; (with_reducible refine (HR1.out _).mono ?_); rintro e w3 ⟨rfl, hb3⟩; have k3 := HW.out.2.2.1.later hb3; have bx3 := (hb3.block _ (Array.getElem?_eq_some_iff.1 HW.out.2.1).1).trans HW.out.2.1; have bw3 := HW.out.1.trans (hb3.mono HW.out.1.size))
              | (go_at_call 41; (with_reducible refine (HWR.out _ _ _ k3 HNX.out.2.2.2.2.2.2.1 HNX.out.2.2.1 bw3 bx3).mono ?_); rintro e w4 ⟨⟨v4, rfl⟩, k4, bw4, bx4⟩)
              | (go_at_call 42; (with_reducible refine (HR2.out _).mono ?_); rintro e w5 ⟨rfl, hb5⟩; have k5 := k4.later hb5; have bx5 := (hb5.block _ (Array.getElem?_eq_some_iff.1 bx4).1).trans bx4; have bw5 := bw4.trans (hb5.mono bw4.size))
              | (go_at_call 41; (with_reducible refine (HWR.out _ _ _ k5 HNX.out.2.2.2.2.1 HNX.out.2.2.2.1 bw5 bx5).mono ?_); rintro e w6 ⟨⟨v6', rfl⟩, k6, bw6, bx6⟩; obtain ⟨z0, z1, z2, z3, z4⟩ := cells5 bx6)
              | (go_at_call 41; (with_reducible refine (HWR.out _ _ _ k6 HNX.out.2.2.2.2.2.1 HNX.out.2.2.2.2.2.2.2 bw6 bx6).mono ?_); rintro e w7 ⟨⟨v7, rfl⟩, k7, bw7, bx7⟩; obtain ⟨q0, q1, q2, q3, q4⟩ := cells5 bx7))
            exact ⟨⟨i + 1, _, _, _, rfl, rfl, rfl, hlt, k7, bw7, HNX.out.2.1, HNX.out.1⟩, hm⟩
end Go.Proofs.YtmekcccmnkgodaaGreatDoor
namespace Go.Proofs.YtmekcccmnkgodaaGreatDoor
open Go.ChangeShapes Go.WideShapes Go.ChangeAt Go.RowKit
set_option linter.unusedVariables false
set_option linter.unusedSimpArgs false
/-- Spell, plainly -/
def spell (X : Nat → Tk) (n : Nat) : Bs × Int := if n > 16384 then ([], 34) else if wfB X n = true then lay X n 0 [] 1 1 else ([], 12)
set_option maxRecDepth 100000 in
theorem spell_any (p : Option Addr) (n cp : Nat) (X : Nat → Tk) (hn : n ≤ 1000000000000) (hr : ∀ i, i < n → TkR (X i)) (w : World) (g : Gr w) (hin : TX w p n X) : Calls Tryz.prog 14 #[.slice p n cp] w fun e w' => e = .returned (.tuple #[.string ⟨(spell X n).1.toArray⟩, .int .i64 (spell X n).2]) ∧ Below w.heap.size w w' := by
  have HWF : Hid (Calls Tryz.prog 27 #[.slice p n cp] w fun e w' => e = .returned (.bool (wfB X n)) ∧ Below w.heap.size w w') := wellFormed_any p n cp X hn hr w g hin
  have HL : Hid (∀ W, Below w.heap.size w W → wfB X n = true → Calls Tryz.prog 28 #[.slice p n cp] W fun e w' => e = .returned (.tuple #[.string ⟨(lay X n 0 [] 1 1).1.toArray⟩, .int .i64 (lay X n 0 [] 1 1).2]) ∧ Below W.heap.size W w') := fun W hW hw => layOut_any p n cp X hn hr hw W (hin.below hW)
  obtain ⟨RS, hRS⟩ : ∃ RS, spell X n = RS := ⟨_, rfl⟩
  rw [hRS]
  unfold spell at hRS
  have HRS : Hid ((if n > 16384 then (([], 34) : Bs × Int) else if wfB X n = true then lay X n 0 [] 1 1 else ([], 12)) = RS) := hRS
  clear hin hr g hRS
  go_enter Tryz.func14, Tryz.ntmps14
  by_cases h1 : n > 16384
  · have d1 : decide ((16384 : Int) < (n : Int)) = true := decide_eq_true (by omega)
    have d1' : decide (16384 < n) = true := decide_eq_true h1
    have HE : Hid (([], 34) = RS) := by have h9 := HRS.out; rw [if_pos h1] at h9; exact h9
    clear h1
    go_wp2
    go_ret2
    exact ⟨by rw [← HE.out]; first | rfl | simp, Below.refl _ _⟩
  · have d1 : decide ((16384 : Int) < (n : Int)) = false := decide_eq_false (by omega)
    have d1' : decide (16384 < n) = false := decide_eq_false h1
    cases hw : wfB X n with
    | false =>
      have HE : Hid (([], 12) = RS) := by have h9 := HRS.out; rw [if_neg h1, if_neg (by rw [hw]; simp)] at h9; exact h9
      rw [hw] at HWF
      clear h1 hw HRS HL
      go_wp2_with (go_at_call 27; (with_reducible refine (HWF.out).mono ?_); rintro e w2 ⟨rfl, hb2⟩)
      go_ret2
      exact ⟨by rw [← HE.out]; first | rfl | simp, hb2⟩
    | true =>
      have HE : Hid (lay X n 0 [] 1 1 = RS) := by have h9 := HRS.out; rw [if_neg h1, if_pos hw] at h9; exact h9
      have HL2 : Hid (∀ W, Below w.heap.size w W → Calls Tryz.prog 28 #[.slice p n cp] W fun e w' => e = .returned (.tuple #[.string ⟨RS.1.toArray⟩, .int .i64 RS.2]) ∧ Below W.heap.size W w') := fun W hW => by rw [← HE.out]; exact HL.out W hW hw
      rw [hw] at HWF
      clear h1 hw HRS HL HE
      go_wp2_with (first
        | (go_at_call 27; (with_reducible refine (HWF.out).mono ?_); rintro e w2 ⟨rfl, hb2⟩)
        | (go_at_call 28; (with_reducible refine (HL2.out _ hb2).mono ?_); rintro e w3 ⟨rfl, hb3⟩))
      go_ret2
      exact ⟨by simp, hb2.trans (hb3.mono hb2.size)⟩
end Go.Proofs.YtmekcccmnkgodaaGreatDoor
