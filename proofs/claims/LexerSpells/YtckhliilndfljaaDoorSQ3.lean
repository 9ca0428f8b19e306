import Derived.Test.YtckhliilndfljaaDoorSQ2
import Derived.Maps.AppendAt
import Derived.Lib.AppendStr
namespace Go.Proofs.YtckhliilndfljaaDoor
open Go.ChangeShapes Go.WideShapes Go.ChangeAt Go.RowKit
set_option linter.unusedVariables false
set_option linter.unusedSimpArgs false
theorem infoU8S : (Tryd.prog.info? 5).map (fun i => (i.zero, i.size, i.bytes)) = some (some (.int .u8 0), 1, 1) := by kernel_rfl
set_option maxRecDepth 100000 in
theorem conv_bytes {W : World} {base : Nat} {p : Option Addr} {c : Nat} {l : Bs} (h : W.ownsRow base 5 1 (.slice p l.length c) l.length (Lib.byteCells l)) : (convert 48 9 (.slice p l.length c)).run Tryd.prog W = .ok (.string ⟨l.toArray⟩) W := by
  rcases h.2 with ⟨h1, h2⟩ | ⟨g, cap, cur, h1, _⟩
  · obtain rfl : l = [] := List.eq_nil_of_length_eq_zero h2
    injection h1 with h1 _ _
    subst h1
    exact run_convert_bytes_nil (P := Tryd.prog) W 48 5 Tryd.underlying48 Tryd.underlying5 _ _ 9 Tryd.underlying9
  · injection h1 with h1 _ _
    subst h1
    refine run_convert_bytes_back (P := Tryd.prog) W 48 9 5 ⟨g, 0, none⟩ c l Tryd.underlying48 Tryd.underlying5 Tryd.underlying9 fun j hj => ?_
    exact h.cells (g := g) rfl j _ (by unfold Lib.byteCells; rw [List.getElem?_map, List.getElem?_eq_getElem hj]; rfl)
theorem row_form {W : World} {base : Nat} {v : Value} {n : Nat} {xs : List Value} {t : TypeId} (h : W.ownsRow base t 1 v n xs) : ∃ p c, v = .slice p n c := by
  rcases h.2 with ⟨h1, h2⟩ | ⟨g, cap, cur, h1, _⟩
  · exact ⟨none, 0, by rw [h1, h2]⟩
  · exact ⟨_, _, h1⟩
/-- a token's box is no row of bytes -/
theorem box_grown {w w' : World} {base bx : Nat} {v : Value} {n : Nat} {xs : List Value} {cs : Array Value} (ho : w.ownsRow base 5 1 v n xs) (hg : w.grownBy w' v.ownBlock) (hb : w.heap[bx]? = some (.cells cs 34 (0, 0))) : w'.heap[bx]? = some (.cells cs 34 (0, 0)) := by
  refine (hg.block bx (Array.getElem?_eq_some_iff.1 hb).1 ?_).trans hb
  intro e
  rcases ho.2 with ⟨h1, _⟩ | ⟨g, cap, cur, h1, _, h2, _⟩
  · rw [h1] at e; cases e
  · rw [h1] at e
    have : bx = g := by simpa [Value.ownBlock] using e
    subst this
    rw [hb] at h2
    injection h2 with h2
    injection h2 with _ h2 _
    revert h2
    decide
theorem row_grow {w w' w0 : World} {B : Nat} {v : Value} {n : Nat} {xs : List Value} (ho : w.ownsRow B 5 1 v n xs) (hg : w.grownBy w' v.ownBlock) (hb : Below B w0 w) (hB : B ≤ w.heap.size) : Below B w0 w' := hb.grown hg hB fun r e => by
  rcases ho.2 with ⟨h1, _⟩ | ⟨g, cap, cur, h1, h2, _⟩
  · rw [h1] at e; cases e
  · rw [h1] at e
    have : g = r := by simpa [Value.ownBlock] using e
    omega
theorem row_later {w w' : World} {B : Nat} {v : Value} {n : Nat} {xs : List Value} (ho : w.ownsRow B 5 1 v n xs) (hb : Below w.heap.size w w') : w'.ownsRow B 5 1 v n xs := by
  refine ⟨ho.1, ?_⟩
  rcases ho.2 with h1 | ⟨g, cap, cur, h1, h2, h3, h4⟩
  · exact .inl h1
  · exact .inr ⟨g, cap, cur, h1, h2, (hb.block g (Array.getElem?_eq_some_iff.1 h3).1).trans h3, h4⟩
theorem byte_snoc (l : Bs) (c : UInt8) : Lib.byteCells l ++ [.int .u8 (c.toNat : Int)] = Lib.byteCells (l ++ [c]) := by simp [Lib.byteCells]
set_option maxRecDepth 100000 in
set_option maxHeartbeats 8000000 in
theorem rspell_any (p : Option Addr) (n cp : Nat) (X : Nat → Tk) (hn : n ≤ 1000000000000) (hr : ∀ i, i < n → TkR (X i)) (w : World) (hin : TX w p n X) : Calls Tryd.prog 11 #[.slice p n cp] w fun e w' => e = .returned (.tuple #[.string ⟨(spell X n).1.toArray⟩, .int .i64 (spell X n).2]) ∧ Below w.heap.size w w' := by
  have HI : Hid (TX w p n X) := hin
  have HR : Hid (∀ i, i < n → TkR (X i)) := hr
  obtain ⟨RS, hRS⟩ : ∃ RS, spell X n = RS := ⟨_, rfl⟩
  rw [hRS]
  unfold spell at hRS
  have HRS : Hid ((if n > 16384 then (([], 34) : Bs × Int) else if wfB X n = true then lay X n 0 [] 1 1 else ([], 12)) = RS) := hRS
  clear hin hr hRS
  go_enter Tryd.func11, Tryd.ntmps11
  by_cases h1 : n > 16384
  · have d1 : decide ((16384 : Int) < (n : Int)) = true := decide_eq_true (by omega)
    have d1' : decide (16384 < n) = true := decide_eq_true h1
    have HE : Hid (([], 34) = RS) := by have h9 := HRS.out; rw [if_pos h1] at h9; exact h9
    clear h1
    go_wp2
    go_ret2
    exact ⟨by rw [← HE.out]; first | rfl | simp, Below.refl _ _⟩
  have d1 : decide ((16384 : Int) < (n : Int)) = false := decide_eq_false (by omega)
  have d1' : decide (16384 < n) = false := decide_eq_false h1
  have HRN : Hid (wfB X n = false → RS = ([], 12)) := fun h => by have h9 := HRS.out; rw [if_neg h1, if_neg (by rw [h]; simp)] at h9; exact h9.symm
  have HRY : Hid (wfB X n = true → lay X n 0 [] 1 1 = RS) := fun h => by have h9 := HRS.out; rw [if_neg h1, if_pos h] at h9; exact h9
  clear HRS h1
  go_wp2
  go_loopw [4] (fun v wr => ∃ i : Nat, v = .int .i64 (i : Int) ∧ i ≤ n ∧ (∀ j, j < i → okT X j = true) ∧ Below w.heap.size w wr) (fun v _ => n - (intOf v).toNat)
  case atStart => exact ⟨0, rfl, Nat.zero_le _, fun j hj => by omega, Below.refl _ _⟩
  case round =>
    obtain ⟨i, rfl, hi, hok, hbel⟩ := hrel
    by_cases hlt : i < n
    case neg =>
      have dl : decide ((i : Int) < (n : Int)) = false := decide_eq_false (by omega)
      have dl2 : decide (i < n) = false := decide_eq_false hlt
      obtain rfl : i = n := by omega
      have HWF : Hid (wfB X i = true) := wf_yes hok
      have HBE : Hid (Below w.heap.size w wr) := hbel
      have HLY : Hid (lay X i 0 [] 1 1 = RS) := HRY.out HWF.out
      clear hok hbel HRN HRY
      obtain ⟨i0, hi0, hz0, hz1, hz2⟩ := info_parts infoU8S
      go_wp2
      go_loopw [7, 8, 9, 10] (fun v7 v8 v9 v10 wr => ∃ (j : Nat) (txt : Bs) (line col : Int) (q : Option Addr) (cq : Nat), v7 = .slice q txt.length cq ∧ v8 = .int .i64 line ∧ v9 = .int .i64 col ∧ v10 = .int .i64 (j : Int) ∧ j ≤ i ∧ wr.ownsRow w.heap.size 5 1 (.slice q txt.length cq) (txt).length (Lib.byteCells (txt)) ∧ Below w.heap.size w wr ∧ LI X j txt line col ∧ lay X (i - j) j txt line col = RS) (fun _ _ _ v _ => i - (intOf v).toNat)
      case atStart => exact ⟨0, [], 1, 1, none, 0, rfl, rfl, rfl, rfl, Nat.zero_le _, World.ownsRow_nil _ _ _ _, HBE.out, ⟨fun _ => ⟨rfl, rfl⟩, fun h => absurd rfl h, by simp, by simp, by omega⟩, HLY.out⟩
      case round =>
        clear HBE HLY
        obtain ⟨j, txt, line, col, q, cq, rfl, rfl, rfl, rfl, hj, hown, hbel, hli, hlay⟩ := hrel
        by_cases hjl : j < i
        case neg =>
          have dj : decide ((j : Int) < (i : Int)) = false := decide_eq_false (by omega)
          have dj2 : decide (j < i) = false := decide_eq_false hjl
          obtain rfl : j = i := by omega
          have HRE : Hid (RS = (txt, 0)) := by rw [Nat.sub_self] at hlay; exact hlay.symm
          have kc := conv_bytes hown
          have HBE : Hid (Below w.heap.size w wr) := hbel
          clear hlay hli hown hbel
          go_wp2
          go_ret2
          exact ⟨by rw [HRE.out]; first | rfl | simp, HBE.out⟩
        case pos =>
          have dj : decide ((j : Int) < (i : Int)) = true := decide_eq_true (by omega)
          have dj2 : decide (j < i) = true := decide_eq_true hjl
          have hm := measW hjl
          have j0 : (0 : Int) ≤ (j : Int) := by omega
          have j1 : (j : Int) < (i : Int) := by omega
          have ej : IntKind.i64.wrap ((j : Int) + 1) = ((j + 1 : Nat) : Int) := by rw [IntKind.wrap_i64]; omega
          obtain hx | ⟨b, o, rfl, hbl, hc⟩ := HI.out.below hbel
          · omega
          obtain ⟨x0, x1, x2, x3, x4⟩ := TX.at hc hjl
          obtain ⟨rm1, rm2⟩ := hli.room HWF.out hjl
          have htr := HR.out j hjl
          have hok := ok_al (wf_at HWF.out hjl)
          have hat := al_text hok.2.2.1
          rw [show i - j = (i - (j + 1)) + 1 by omega] at hlay
          unfold lay at hlay
          obtain ⟨t, hte⟩ : ∃ t, X j = t := ⟨_, rfl⟩
          rw [hte] at x0 x1 x2 x3 x4 rm1 rm2 htr hok hat hlay
          have HT : Hid (X j = t) := hte
          obtain ⟨lt, hltx⟩ : ∃ lt, t.text.length = lt := ⟨_, rfl⟩
          have htz : (⟨t.text.toArray⟩ : ByteArray).size = lt := by rw [← hltx]; simp [ByteArray.size]
          obtain ⟨lx, hlx⟩ : ∃ lx, txt.length = lx := ⟨_, rfl⟩
          have hlx2 := hli.l
          have hcc := hli.c
          have hnn := hli.n
          rw [hlx] at hlx2 hcc
          rw [hltx] at hat
          obtain ⟨ls, hls⟩ : ∃ ls : Nat, t.line - line = (ls : Int) := ⟨(t.line - line).toNat, by omega⟩
          rw [hls] at rm2 hlay
          obtain ⟨cp', hcp⟩ : ∃ cp', (if (0 : Int) < (ls : Int) then (1 : Int) else col) = cp' := ⟨_, rfl⟩
          rw [hcp] at rm2 hlay
          obtain ⟨sp, hsp⟩ : ∃ sp : Nat, t.col - cp' = (sp : Int) := ⟨(t.col - cp').toNat, by omega⟩
          rw [hsp, hltx, hlx] at hlay
          obtain ⟨wx, hwx⟩ : ∃ wx, wr.alloc (.cells #[.int .i64 t.kind, .string ⟨t.text.toArray⟩, .int .u64 (t.num : Int), .int .i64 t.line, .int .i64 t.col] 34) = wx := ⟨_, rfl⟩
          have hbx : Below wr.heap.size wr wx := by rw [← hwx]; exact (Below.refl _ wr).alloc (Nat.le_refl _) _
          have hxb : wx.heap[wr.heap.size]? = some (.cells #[.int .i64 t.kind, .string ⟨t.text.toArray⟩, .int .u64 (t.num : Int), .int .i64 t.line, .int .i64 t.col] 34 (0, 0)) := by rw [← hwx]; exact World.alloc_heap_new wr _
          have hbw : Below w.heap.size w wx := hbel.trans (hbx.mono hbel.size)
          obtain ⟨bx, hbxe⟩ : ∃ bx, wr.heap.size = bx := ⟨_, rfl⟩
          rw [hbxe] at hxb
          have HW : Hid (Below w.heap.size w wx ∧ wx.heap[bx]? = some (.cells #[.int .i64 t.kind, .string ⟨t.text.toArray⟩, .int .u64 (t.num : Int), .int .i64 t.line, .int .i64 t.col] 34 (0, 0)) ∧ wx.ownsRow w.heap.size 5 1 (.slice q txt.length cq) (txt).length (Lib.byteCells (txt))) := ⟨hbw, hxb, row_later hown hbx⟩
          have HLI : Hid (LI X j txt line col) := hli
          have HC : Hid (t.col ≤ 9223372036854775807 ∧ 1 ≤ t.col ∧ t.line ≤ 9223372036854775807 ∧ lt ≤ 65536 ∧ 1 ≤ t.line ∧ t.text.length = lt ∧ txt.length = lx ∧ lx ≤ 65536 ∧ t.line - line = (ls : Int) ∧ t.col - cp' = (sp : Int) ∧ (1 ≤ cp' ∧ cp' ≤ 65537) ∧ (1 ≤ col ∧ col ≤ 65537) ∧ 1 ≤ line ∧ (ls = 0 → cp' = col) ∧ (0 < ls → cp' = 1)) := ⟨htr.c.2, hok.2.1, htr.l.2, hat.2, hok.1, hltx, hlx, hlx2, hls, hsp, by rw [← hcp]; split <;> omega, by omega, hnn.1, fun h => by rw [← hcp, if_neg (by omega)], fun h => by rw [← hcp, if_pos (by omega)]⟩
          have HLAY : Hid (_ = RS) := hlay
          have hxx : Hid (wr.heap.size = bx) := hbxe
          clear hbx hxb hbw hbel hc hte hbl hli htr hok hat hown hlay hltx hlx hls hcp hsp rm1 rm2 hcc hnn hlx2
          have hx1T : ∀ m : Nat, m ≤ 65537 → m + 1 ≤ maxLen ∧ (m + 1) * 1 ≤ 140737488355328 := fun m h => ⟨by unfold maxLen; omega, by omega⟩
          go_wp2
          try rw [hwx]
          clear hwx x0 x1 x2 x3 x4
          go_loopw [7, 8, 9] (fun v7 v8 v9 wr => ∃ (k : Nat) (tx : Bs) (q : Option Addr) (cq : Nat), v7 = .slice q tx.length cq ∧ v8 = .int .i64 (line + (k : Int)) ∧ v9 = .int .i64 (if k = 0 then col else 1) ∧ k ≤ ls ∧ tx = txt ++ List.replicate k 10 ∧ lx + k ≤ 65537 ∧ wr.ownsRow w.heap.size 5 1 (.slice q tx.length cq) (tx).length (Lib.byteCells (tx)) ∧ Below w.heap.size w wr ∧ wr.heap[bx]? = some (.cells #[.int .i64 t.kind, .string ⟨t.text.toArray⟩, .int .u64 (t.num : Int), .int .i64 t.line, .int .i64 t.col] 34 (0, 0))) (fun _ v _ _ => (t.line - intOf v).toNat)
          case atStart => exact ⟨0, txt, q, cq, rfl, by simp, rfl, Nat.zero_le _, by simp, by have := HC.out; omega, HW.out.2.2, HW.out.1, HW.out.2.1⟩
          case round =>
            clear HW
            obtain ⟨k, tx, q, cq, rfl, rfl, rfl, hk, htx, hlk, hown, hbel, hbx⟩ := hrel
            obtain ⟨y0, y1, y2, y3, y4⟩ := cells5 hbx
            obtain ⟨lk, hlke⟩ : ∃ lk, line + (k : Int) = lk := ⟨_, rfl⟩
            obtain ⟨cv, hcv⟩ : ∃ cv, (if k = 0 then col else 1) = cv := ⟨_, rfl⟩
            obtain ⟨m, hme⟩ : ∃ m, tx.length = m := ⟨_, rfl⟩
            have hmk : m = lx + k := by rw [← hme, htx, List.length_append, List.length_replicate, HC.out.2.2.2.2.2.2.1]
            rw [hlke, hcv, hme]
            rw [hme] at hown
            by_cases hA : k < ls ∧ lx + k ≤ 65536
            case pos =>
              have dA : decide (lk < t.line) = true := decide_eq_true (by have := HC.out; omega)
              have dB : decide ((m : Int) ≤ 65536) = true := decide_eq_true (by omega)
              have dB' : decide (m ≤ 65536) = true := decide_eq_true (by omega)
              have eL : IntKind.i64.wrap (lk + 1) = lk + 1 := by rw [IntKind.wrap_i64]; have := HC.out; omega
              have hal : Below wr.heap.size wr (wr.alloc (.cells #[.int .u8 10] 5)) := (Below.refl _ wr).alloc (Nat.le_refl _) _
              have HO1 : Hid ((wr.alloc (.cells #[.int .u8 10] 5)).ownsRow w.heap.size 5 1 (.slice q m cq) m (Lib.byteCells tx)) := row_later hown hal
              have hba : Below w.heap.size w (wr.alloc (.cells #[.int .u8 10] 5)) := hbel.trans (hal.mono hbel.size)
              have HBS : Hid (w.heap.size ≤ (wr.alloc (.cells #[.int .u8 10] 5)).heap.size ∧ Below w.heap.size w (wr.alloc (.cells #[.int .u8 10] 5)) ∧ (wr.alloc (.cells #[.int .u8 10] 5)).heap[bx]? = some (.cells #[.int .i64 t.kind, .string ⟨t.text.toArray⟩, .int .u64 (t.num : Int), .int .i64 t.line, .int .i64 t.col] 34 (0, 0))) := ⟨hba.size, hba, (hal.block _ (Array.getElem?_eq_some_iff.1 hbx).1).trans hbx⟩
              have hx1 := (hx1T m (by omega)).1
              have hx2 := (hx1T m (by omega)).2
              have HK : Hid (k < ls ∧ lx + k ≤ 65536 ∧ tx = txt ++ List.replicate k 10 ∧ line + (k : Int) = lk ∧ tx.length = m ∧ 0 < t.line - lk) := ⟨hA.1, hA.2, htx, hlke, hme, by have := HC.out; omega⟩
              clear hA hal hba hown hbel hbx htx hlke hcv hme hmk hk hlk
              go_wp2_with (refine wpList_append_own_at _ rfl (.tmp 72) (.tmp 73) 48 rfl w.heap.size 5 i0 _ 1 1 Tryd.underlying48 hi0 hz0 hz1 hz2 rfl (by decide) (.slice q m cq) m (Lib.byteCells tx) rfl HO1.out ⟨wr.heap.size, 0, none⟩ 1 1 [.int .u8 10] rfl rfl (cell_one_new _ _ _) (by simp [Value.oneCell']) hx1 hx2 HBS.out.1 ?_; intro v5 w5 ho5 hg5 _ _; obtain ⟨q5, c5, hv5⟩ := row_form ho5; subst hv5; have hb5 := row_grow HO1.out hg5 HBS.out.2.1 HBS.out.1; have hx5 := box_grown HO1.out hg5 HBS.out.2.2; have HF5 : Hid (w5.ownsRow w.heap.size 5 1 (.slice q5 (m + 1) c5) (m + 1) (Lib.byteCells tx ++ [.int .u8 10])) := ho5; clear ho5 hg5)
              have hh := HK.out
              have hln : (tx ++ [10]).length = m + 1 := by rw [List.length_append, hh.2.2.2.2.1]; rfl
              refine ⟨⟨k + 1, tx ++ [10], q5, c5, by rw [hln], by rw [← hh.2.2.2.1]; congr 1; omega, by simp, hh.1, ?_, by omega, ?_, hb5, hx5⟩, by simp [intOf]; omega⟩
              · rw [hh.2.2.1, List.append_assoc, ← List.replicate_succ']
              · rw [hln, ← byte_snoc]
                exact HF5.out
            case neg =>
              have HE3 : Hid ((tx = txt ++ List.replicate ls 10 ∧ cv = cp' ∧ lk = t.line) ∨ (m = 65537 ∧ (sp : Int) > 65536 - (lx : Int) - (ls : Int))) := by
                have hh := HC.out
                by_cases hkl : k = ls
                · left
                  subst hkl
                  refine ⟨htx, ?_, by omega⟩
                  rw [← hcv]
                  split
                  · rename_i h0
                    exact (hh.2.2.2.2.2.2.2.2.2.2.2.2.2.1 h0).symm
                  · rename_i h0
                    exact (hh.2.2.2.2.2.2.2.2.2.2.2.2.2.2 (by omega)).symm
                · right
                  exact ⟨by omega, by omega⟩
              have HCV : Hid ((1 ≤ cv ∧ cv ≤ 65537) ∧ tx.length = m ∧ m ≤ 65537) := ⟨by rw [← hcv]; have := HC.out; split <;> omega, hme, by omega⟩
              have HO3 : Hid (wr.ownsRow w.heap.size 5 1 (.slice q m cq) m (Lib.byteCells tx) ∧ Below w.heap.size w wr ∧ wr.heap[bx]? = some (.cells #[.int .i64 t.kind, .string ⟨t.text.toArray⟩, .int .u64 (t.num : Int), .int .i64 t.line, .int .i64 t.col] 34 (0, 0))) := ⟨hown, hbel, hbx⟩
              by_cases hkl : k = ls
              · have dA : decide (lk < t.line) = false := decide_eq_false (by have := HC.out; omega)
                clear hA hkl htx hlke hcv hme hmk hk hlk hown hbel hbx
                go_wp2
                go_loopw [7, 9] (fun v7 v9 wr => ∃ (k : Nat) (ty : Bs) (q : Option Addr) (cq : Nat), v7 = .slice q ty.length cq ∧ v9 = .int .i64 (cv + (k : Int)) ∧ wr.ownsRow w.heap.size 5 1 (.slice q ty.length cq) (ty).length (Lib.byteCells (ty)) ∧ Below w.heap.size w wr ∧ wr.heap[bx]? = some (.cells #[.int .i64 t.kind, .string ⟨t.text.toArray⟩, .int .u64 (t.num : Int), .int .i64 t.line, .int .i64 t.col] 34 (0, 0)) ∧ ty.length ≤ 65537 ∧ k ≤ 65537 ∧ ((ty = txt ++ List.replicate ls 10 ++ List.replicate k 32 ∧ k ≤ sp ∧ cv = cp' ∧ lk = t.line) ∨ (ty.length = 65537 ∧ (sp : Int) > 65536 - (lx : Int) - (ls : Int)))) (fun _ v _ => (t.col - intOf v).toNat)
                case atStart =>
                  have hh := HCV.out
                  refine ⟨0, tx, q, cq, by rw [hh.2.1], by simp, by rw [hh.2.1]; exact HO3.out.1, HO3.out.2.1, HO3.out.2.2, by omega, by omega, ?_⟩
                  rcases HE3.out with h9 | h9
                  · exact .inl ⟨by rw [h9.1]; simp, Nat.zero_le _, h9.2.1, h9.2.2⟩
                  · exact .inr ⟨by omega, h9.2⟩
                case round =>
                  clear HO3 HE3
                  obtain ⟨k, ty, q, cq, rfl, rfl, hown, hbel, hbx, hty, hk5, hst⟩ := hrel
                  obtain ⟨z0, z1, z2, z3, z4⟩ := cells5 hbx
                  obtain ⟨ck, hcke⟩ : ∃ ck, cv + (k : Int) = ck := ⟨_, rfl⟩
                  obtain ⟨my, hmye⟩ : ∃ my, ty.length = my := ⟨_, rfl⟩
                  rw [hcke, hmye]
                  rw [hmye] at hown hty hst
                  have hckb : 1 ≤ ck ∧ ck ≤ 200000 := by have := HCV.out; omega
                  by_cases hA : ck < t.col ∧ my ≤ 65536
                  case pos =>
                    have fA : decide (ck < t.col) = true := decide_eq_true hA.1
                    have fB : decide ((my : Int) ≤ 65536) = true := decide_eq_true (by omega)
                    have fB' : decide (my ≤ 65536) = true := decide_eq_true hA.2
                    have fL : IntKind.i64.wrap (ck + 1) = ck + 1 := by rw [IntKind.wrap_i64]; omega
                    have hal : Below wr.heap.size wr (wr.alloc (.cells #[.int .u8 32] 5)) := (Below.refl _ wr).alloc (Nat.le_refl _) _
                    have HO1 : Hid ((wr.alloc (.cells #[.int .u8 32] 5)).ownsRow w.heap.size 5 1 (.slice q my cq) my (Lib.byteCells ty)) := row_later hown hal
                    have hba : Below w.heap.size w (wr.alloc (.cells #[.int .u8 32] 5)) := hbel.trans (hal.mono hbel.size)
                    have HBS : Hid (w.heap.size ≤ (wr.alloc (.cells #[.int .u8 32] 5)).heap.size ∧ Below w.heap.size w (wr.alloc (.cells #[.int .u8 32] 5)) ∧ (wr.alloc (.cells #[.int .u8 32] 5)).heap[bx]? = some (.cells #[.int .i64 t.kind, .string ⟨t.text.toArray⟩, .int .u64 (t.num : Int), .int .i64 t.line, .int .i64 t.col] 34 (0, 0))) := ⟨hba.size, hba, (hal.block _ (Array.getElem?_eq_some_iff.1 hbx).1).trans hbx⟩
                    have hx1 := (hx1T my (by omega)).1
                    have hx2 := (hx1T my (by omega)).2
                    have HK : Hid ((ty ++ [32] = txt ++ List.replicate ls 10 ++ List.replicate (k + 1) 32 ∧ k + 1 ≤ sp ∧ cv = cp' ∧ lk = t.line) ∧ ck < t.col ∧ my ≤ 65536 ∧ cv + (k : Int) = ck ∧ ty.length = my ∧ k + 1 ≤ 65537) := by
                      have hh := HC.out
                      rcases hst with ⟨h5, h6, h7, h8⟩ | ⟨h5, _⟩
                      · have hlen : my = lx + ls + k := by rw [← hmye, h5, List.length_append, List.length_append, List.length_replicate, List.length_replicate, hh.2.2.2.2.2.2.1]
                        exact ⟨⟨by rw [h5, List.append_assoc, ← List.replicate_succ'], by omega, h7, h8⟩, hA.1, hA.2, hcke, hmye, by omega⟩
                      · omega
                    clear hA hal hba hown hbel hbx hst hcke hmye hty hckb hk5
                    go_wp2_with (refine wpList_append_own_at _ rfl (.tmp 86) (.tmp 87) 48 rfl w.heap.size 5 i0 _ 1 1 Tryd.underlying48 hi0 hz0 hz1 hz2 rfl (by decide) (.slice q my cq) my (Lib.byteCells ty) rfl HO1.out ⟨wr.heap.size, 0, none⟩ 1 1 [.int .u8 32] rfl rfl (cell_one_new _ _ _) (by simp [Value.oneCell']) hx1 hx2 HBS.out.1 ?_; intro v5 w5 ho5 hg5 _ _; obtain ⟨q5, c5, hv5⟩ := row_form ho5; subst hv5; have hb5 := row_grow HO1.out hg5 HBS.out.2.1 HBS.out.1; have hx5 := box_grown HO1.out hg5 HBS.out.2.2; have HF5 : Hid (w5.ownsRow w.heap.size 5 1 (.slice q5 (my + 1) c5) (my + 1) (Lib.byteCells ty ++ [.int .u8 32])) := ho5; clear ho5 hg5)
                    have hh := HK.out
                    have hln : (ty ++ [32]).length = my + 1 := by rw [List.length_append, hh.2.2.2.2.1]; rfl
                    refine ⟨⟨k + 1, ty ++ [32], q5, c5, by rw [hln], by rw [← hh.2.2.2.1]; congr 1; omega, ?_, hb5, hx5, by omega, by omega, .inl hh.1⟩, by simp [intOf]; omega⟩
                    rw [hln, ← byte_snoc]
                    exact HF5.out
                  case neg =>
                    have HFE : Hid ((ty = txt ++ List.replicate ls 10 ++ List.replicate sp 32 ∧ lk = t.line ∧ ck = t.col ∧ my = lx + ls + sp) ∨ (my = 65537 ∧ (sp : Int) > 65536 - (lx : Int) - (ls : Int))) := by
                      have hh := HC.out
                      rcases hst with ⟨h5, h6, h7, h8⟩ | ⟨h5, h6⟩
                      · have hlen : my = lx + ls + k := by rw [← hmye, h5, List.length_append, List.length_append, List.length_replicate, List.length_replicate, hh.2.2.2.2.2.2.1]
                        by_cases hks : k = sp
                        · subst hks
                          exact .inl ⟨h5, h8, by omega, hlen⟩
                        · right
                          exact ⟨by omega, by omega⟩
                      · exact .inr ⟨h5, h6⟩
                    have HOF : Hid (wr.ownsRow w.heap.size 5 1 (.slice q my cq) my (Lib.byteCells ty) ∧ Below w.heap.size w wr ∧ wr.heap[bx]? = some (.cells #[.int .i64 t.kind, .string ⟨t.text.toArray⟩, .int .u64 (t.num : Int), .int .i64 t.line, .int .i64 t.col] 34 (0, 0)) ∧ ty.length = my) := ⟨hown, hbel, hbx, hmye⟩
                    have HCB : Hid (my ≤ 65537) := hty
                    have eC : IntKind.i64.wrap (ck + (lt : Int)) = ck + (lt : Int) := by rw [IntKind.wrap_i64]; have := HC.out; omega
                    have hy1 : my + (⟨t.text.toArray⟩ : ByteArray).size ≤ maxLen := by rw [htz]; unfold maxLen; have := HC.out; omega
                    have hy2 : my + (⟨t.text.toArray⟩ : ByteArray).size ≤ 140737488355328 := by rw [htz]; have := HC.out; omega
                    have hy3 : w.heap.size ≤ wr.heap.size := hbel.size
                    by_cases hck : ck < t.col
                    · have fA : decide (ck < t.col) = true := decide_eq_true hck
                      have fB : decide ((my : Int) ≤ 65536) = false := decide_eq_false (by omega)
                      have fB' : decide (my ≤ 65536) = false := decide_eq_false (by omega)
                      clear hA hck hown hbel hbx hst hcke hmye hty hckb hk5
                      by_cases hT : my + lt ≤ 65536
                      · have g1 : decide ((65536 : Int) < (my : Int) + (lt : Int)) = false := decide_eq_false (by omega)
                        have g1' : decide (65536 < my + lt) = false := decide_eq_false (by omega)
                        have g2 : decide ((65536 : Int) < ((my + lt : Nat) : Int)) = false := decide_eq_false (by omega)
                        have HNX : Hid (lay X (i - (j + 1)) (j + 1) (ty ++ t.text) lk (ck + (lt : Int)) = RS ∧ LI X (j + 1) (ty ++ t.text) lk (ck + (lt : Int))) := by
                          have hh := HC.out
                          rcases HFE.out with ⟨h5, h6, h7, h8⟩ | ⟨h5, _⟩
                          · have hlay := HLAY.out
                            rw [if_neg (by rintro (h | h) <;> omega), Int.toNat_natCast, Int.toNat_natCast, ← h5, ← h7] at hlay
                            have hln : (if (0 : Int) < (ls : Int) then t.line else line) = lk := by split <;> omega
                            rw [hln] at hlay
                            refine ⟨hlay, ⟨fun h => absurd h (by omega), fun _ => ?_, ?_, ?_, ?_⟩⟩
                            · rw [show j + 1 - 1 = j by omega, HT.out, hh.2.2.2.2.2.1]
                              exact ⟨h6, by rw [h7]⟩
                            · rw [List.length_append, HOF.out.2.2.2, hh.2.2.2.2.2.1]; omega
                            · rw [List.length_append, HOF.out.2.2.2, hh.2.2.2.2.2.1]; have := HLI.out.c; rw [hh.2.2.2.2.2.2.1] at this; omega
                            · omega
                          · omega
                        clear hT HFE
                        go_wp2_with (refine Lib.wpList_append_own_string _ rfl (.tmp 91) (.tmp 93) 48 9 rfl w.heap.size 5 i0 Tryd.underlying48 Tryd.underlying9 hi0 hz0 hz1 hz2 (.slice q my cq) my (Lib.byteCells ty) rfl HOF.out.1 ⟨t.text.toArray⟩ rfl hy1 hy2 hy3 ?_; intro v5 w5 ho5 hg5 _; rw [htz] at ho5; obtain ⟨q5, c5, hv5⟩ := row_form ho5; subst hv5; have hb5 := row_grow HOF.out.1 hg5 HOF.out.2.1 hy3; have hx5 := box_grown HOF.out.1 hg5 HOF.out.2.2.1; obtain ⟨r0, r1, r2, r3, r4⟩ := cells5 hx5; have HF5 : Hid (w5.ownsRow w.heap.size 5 1 (.slice q5 (my + lt) c5) (my + lt) (Lib.byteCells ty ++ Lib.strCells ⟨t.text.toArray⟩)) := ho5; clear ho5 hg5)
                        have hln : (ty ++ t.text).length = my + lt := by rw [List.length_append, HOF.out.2.2.2, HC.out.2.2.2.2.2.1]
                        refine ⟨⟨j + 1, ty ++ t.text, lk, ck + (lt : Int), q5, c5, by rw [hln], rfl, rfl, rfl, hjl, ?_, hb5, HNX.out.2, HNX.out.1⟩, hm⟩
                        rw [hln, Lib.byteCells_append]
                        exact HF5.out
                      · have g1 : decide ((65536 : Int) < (my : Int) + (lt : Int)) = true := decide_eq_true (by omega)
                        have g1' : decide (65536 < my + lt) = true := decide_eq_true (by omega)
                        have g2 : decide ((65536 : Int) < ((my + lt : Nat) : Int)) = true := decide_eq_true (by omega)
                        have HRE : Hid (RS = ([], 30)) := by
                          have hlay := HLAY.out
                          rw [if_pos (by rcases HFE.out with ⟨h5, h6, h7, h8⟩ | ⟨h5, h6⟩; exact .inr (by omega); exact .inl h6)] at hlay
                          exact hlay.symm
                        clear hT HFE
                        go_wp2_with (refine Lib.wpList_append_own_string _ rfl (.tmp 91) (.tmp 93) 48 9 rfl w.heap.size 5 i0 Tryd.underlying48 Tryd.underlying9 hi0 hz0 hz1 hz2 (.slice q my cq) my (Lib.byteCells ty) rfl HOF.out.1 ⟨t.text.toArray⟩ rfl hy1 hy2 hy3 ?_; intro v5 w5 ho5 hg5 _; rw [htz] at ho5; obtain ⟨q5, c5, hv5⟩ := row_form ho5; subst hv5; have hb5 := row_grow HOF.out.1 hg5 HOF.out.2.1 hy3; have hx5 := box_grown HOF.out.1 hg5 HOF.out.2.2.1; obtain ⟨r0, r1, r2, r3, r4⟩ := cells5 hx5; clear ho5 hg5)
                        go_ret2
                        exact ⟨by rw [HRE.out]; first | rfl | simp, hb5⟩
                    · have fA : decide (ck < t.col) = false := decide_eq_false hck
                      clear hA hck hown hbel hbx hst hcke hmye hty hckb hk5
                      by_cases hT : my + lt ≤ 65536
                      · have g1 : decide ((65536 : Int) < (my : Int) + (lt : Int)) = false := decide_eq_false (by omega)
                        have g1' : decide (65536 < my + lt) = false := decide_eq_false (by omega)
                        have g2 : decide ((65536 : Int) < ((my + lt : Nat) : Int)) = false := decide_eq_false (by omega)
                        have HNX : Hid (lay X (i - (j + 1)) (j + 1) (ty ++ t.text) lk (ck + (lt : Int)) = RS ∧ LI X (j + 1) (ty ++ t.text) lk (ck + (lt : Int))) := by
                          have hh := HC.out
                          rcases HFE.out with ⟨h5, h6, h7, h8⟩ | ⟨h5, _⟩
                          · have hlay := HLAY.out
                            rw [if_neg (by rintro (h | h) <;> omega), Int.toNat_natCast, Int.toNat_natCast, ← h5, ← h7] at hlay
                            have hln : (if (0 : Int) < (ls : Int) then t.line else line) = lk := by split <;> omega
                            rw [hln] at hlay
                            refine ⟨hlay, ⟨fun h => absurd h (by omega), fun _ => ?_, ?_, ?_, ?_⟩⟩
                            · rw [show j + 1 - 1 = j by omega, HT.out, hh.2.2.2.2.2.1]
                              exact ⟨h6, by rw [h7]⟩
                            · rw [List.length_append, HOF.out.2.2.2, hh.2.2.2.2.2.1]; omega
                            · rw [List.length_append, HOF.out.2.2.2, hh.2.2.2.2.2.1]; have := HLI.out.c; rw [hh.2.2.2.2.2.2.1] at this; omega
                            · omega
                          · omega
                        clear hT HFE
                        go_wp2_with (refine Lib.wpList_append_own_string _ rfl (.tmp 91) (.tmp 93) 48 9 rfl w.heap.size 5 i0 Tryd.underlying48 Tryd.underlying9 hi0 hz0 hz1 hz2 (.slice q my cq) my (Lib.byteCells ty) rfl HOF.out.1 ⟨t.text.toArray⟩ rfl hy1 hy2 hy3 ?_; intro v5 w5 ho5 hg5 _; rw [htz] at ho5; obtain ⟨q5, c5, hv5⟩ := row_form ho5; subst hv5; have hb5 := row_grow HOF.out.1 hg5 HOF.out.2.1 hy3; have hx5 := box_grown HOF.out.1 hg5 HOF.out.2.2.1; obtain ⟨r0, r1, r2, r3, r4⟩ := cells5 hx5; have HF5 : Hid (w5.ownsRow w.heap.size 5 1 (.slice q5 (my + lt) c5) (my + lt) (Lib.byteCells ty ++ Lib.strCells ⟨t.text.toArray⟩)) := ho5; clear ho5 hg5)
                        have hln : (ty ++ t.text).length = my + lt := by rw [List.length_append, HOF.out.2.2.2, HC.out.2.2.2.2.2.1]
                        refine ⟨⟨j + 1, ty ++ t.text, lk, ck + (lt : Int), q5, c5, by rw [hln], rfl, rfl, rfl, hjl, ?_, hb5, HNX.out.2, HNX.out.1⟩, hm⟩
                        rw [hln, Lib.byteCells_append]
                        exact HF5.out
                      · have g1 : decide ((65536 : Int) < (my : Int) + (lt : Int)) = true := decide_eq_true (by omega)
                        have g1' : decide (65536 < my + lt) = true := decide_eq_true (by omega)
                        have g2 : decide ((65536 : Int) < ((my + lt : Nat) : Int)) = true := decide_eq_true (by omega)
                        have HRE : Hid (RS = ([], 30)) := by
                          have hlay := HLAY.out
                          rw [if_pos (by rcases HFE.out with ⟨h5, h6, h7, h8⟩ | ⟨h5, h6⟩; exact .inr (by omega); exact .inl h6)] at hlay
                          exact hlay.symm
                        clear hT HFE
                        go_wp2_with (refine Lib.wpList_append_own_string _ rfl (.tmp 91) (.tmp 93) 48 9 rfl w.heap.size 5 i0 Tryd.underlying48 Tryd.underlying9 hi0 hz0 hz1 hz2 (.slice q my cq) my (Lib.byteCells ty) rfl HOF.out.1 ⟨t.text.toArray⟩ rfl hy1 hy2 hy3 ?_; intro v5 w5 ho5 hg5 _; rw [htz] at ho5; obtain ⟨q5, c5, hv5⟩ := row_form ho5; subst hv5; have hb5 := row_grow HOF.out.1 hg5 HOF.out.2.1 hy3; have hx5 := box_grown HOF.out.1 hg5 HOF.out.2.2.1; obtain ⟨r0, r1, r2, r3, r4⟩ := cells5 hx5; clear ho5 hg5)
                        go_ret2
                        exact ⟨by rw [HRE.out]; first | rfl | simp, hb5⟩
              · have dA : decide (lk < t.line) = true := decide_eq_true (by have := HC.out; omega)
                have dB : decide ((m : Int) ≤ 65536) = false := decide_eq_false (by omega)
                have dB' : decide (m ≤ 65536) = false := decide_eq_false (by omega)
                clear hA hkl htx hlke hcv hme hmk hk hlk hown hbel hbx
                go_wp2
                go_loopw [7, 9] (fun v7 v9 wr => ∃ (k : Nat) (ty : Bs) (q : Option Addr) (cq : Nat), v7 = .slice q ty.length cq ∧ v9 = .int .i64 (cv + (k : Int)) ∧ wr.ownsRow w.heap.size 5 1 (.slice q ty.length cq) (ty).length (Lib.byteCells (ty)) ∧ Below w.heap.size w wr ∧ wr.heap[bx]? = some (.cells #[.int .i64 t.kind, .string ⟨t.text.toArray⟩, .int .u64 (t.num : Int), .int .i64 t.line, .int .i64 t.col] 34 (0, 0)) ∧ ty.length ≤ 65537 ∧ k ≤ 65537 ∧ ((ty = txt ++ List.replicate ls 10 ++ List.replicate k 32 ∧ k ≤ sp ∧ cv = cp' ∧ lk = t.line) ∨ (ty.length = 65537 ∧ (sp : Int) > 65536 - (lx : Int) - (ls : Int)))) (fun _ v _ => (t.col - intOf v).toNat)
                case atStart =>
                  have hh := HCV.out
                  refine ⟨0, tx, q, cq, by rw [hh.2.1], by simp, by rw [hh.2.1]; exact HO3.out.1, HO3.out.2.1, HO3.out.2.2, by omega, by omega, ?_⟩
                  rcases HE3.out with h9 | h9
                  · exact .inl ⟨by rw [h9.1]; simp, Nat.zero_le _, h9.2.1, h9.2.2⟩
                  · exact .inr ⟨by omega, h9.2⟩
                case round =>
                  clear HO3 HE3
                  obtain ⟨k, ty, q, cq, rfl, rfl, hown, hbel, hbx, hty, hk5, hst⟩ := hrel
                  obtain ⟨z0, z1, z2, z3, z4⟩ := cells5 hbx
                  obtain ⟨ck, hcke⟩ : ∃ ck, cv + (k : Int) = ck := ⟨_, rfl⟩
                  obtain ⟨my, hmye⟩ : ∃ my, ty.length = my := ⟨_, rfl⟩
                  rw [hcke, hmye]
                  rw [hmye] at hown hty hst
                  have hckb : 1 ≤ ck ∧ ck ≤ 200000 := by have := HCV.out; omega
                  by_cases hA : ck < t.col ∧ my ≤ 65536
                  case pos =>
                    have fA : decide (ck < t.col) = true := decide_eq_true hA.1
                    have fB : decide ((my : Int) ≤ 65536) = true := decide_eq_true (by omega)
                    have fB' : decide (my ≤ 65536) = true := decide_eq_true hA.2
                    have fL : IntKind.i64.wrap (ck + 1) = ck + 1 := by rw [IntKind.wrap_i64]; omega
                    have hal : Below wr.heap.size wr (wr.alloc (.cells #[.int .u8 32] 5)) := (Below.refl _ wr).alloc (Nat.le_refl _) _
                    have HO1 : Hid ((wr.alloc (.cells #[.int .u8 32] 5)).ownsRow w.heap.size 5 1 (.slice q my cq) my (Lib.byteCells ty)) := row_later hown hal
                    have hba : Below w.heap.size w (wr.alloc (.cells #[.int .u8 32] 5)) := hbel.trans (hal.mono hbel.size)
                    have HBS : Hid (w.heap.size ≤ (wr.alloc (.cells #[.int .u8 32] 5)).heap.size ∧ Below w.heap.size w (wr.alloc (.cells #[.int .u8 32] 5)) ∧ (wr.alloc (.cells #[.int .u8 32] 5)).heap[bx]? = some (.cells #[.int .i64 t.kind, .string ⟨t.text.toArray⟩, .int .u64 (t.num : Int), .int .i64 t.line, .int .i64 t.col] 34 (0, 0))) := ⟨hba.size, hba, (hal.block _ (Array.getElem?_eq_some_iff.1 hbx).1).trans hbx⟩
                    have hx1 := (hx1T my (by omega)).1
                    have hx2 := (hx1T my (by omega)).2
                    have HK : Hid ((ty ++ [32] = txt ++ List.replicate ls 10 ++ List.replicate (k + 1) 32 ∧ k + 1 ≤ sp ∧ cv = cp' ∧ lk = t.line) ∧ ck < t.col ∧ my ≤ 65536 ∧ cv + (k : Int) = ck ∧ ty.length = my ∧ k + 1 ≤ 65537) := by
                      have hh := HC.out
                      rcases hst with ⟨h5, h6, h7, h8⟩ | ⟨h5, _⟩
                      · have hlen : my = lx + ls + k := by rw [← hmye, h5, List.length_append, List.length_append, List.length_replicate, List.length_replicate, hh.2.2.2.2.2.2.1]
                        exact ⟨⟨by rw [h5, List.append_assoc, ← List.replicate_succ'], by omega, h7, h8⟩, hA.1, hA.2, hcke, hmye, by omega⟩
                      · omega
                    clear hA hal hba hown hbel hbx hst hcke hmye hty hckb hk5
                    go_wp2_with (refine wpList_append_own_at _ rfl (.tmp 86) (.tmp 87) 48 rfl w.heap.size 5 i0 _ 1 1 Tryd.underlying48 hi0 hz0 hz1 hz2 rfl (by decide) (.slice q my cq) my (Lib.byteCells ty) rfl HO1.out ⟨wr.heap.size, 0, none⟩ 1 1 [.int .u8 32] rfl rfl (cell_one_new _ _ _) (by simp [Value.oneCell']) hx1 hx2 HBS.out.1 ?_; intro v5 w5 ho5 hg5 _ _; obtain ⟨q5, c5, hv5⟩ := row_form ho5; subst hv5; have hb5 := row_grow HO1.out hg5 HBS.out.2.1 HBS.out.1; have hx5 := box_grown HO1.out hg5 HBS.out.2.2; have HF5 : Hid (w5.ownsRow w.heap.size 5 1 (.slice q5 (my + 1) c5) (my + 1) (Lib.byteCells ty ++ [.int .u8 32])) := ho5; clear ho5 hg5)
                    have hh := HK.out
                    have hln : (ty ++ [32]).length = my + 1 := by rw [List.length_append, hh.2.2.2.2.1]; rfl
                    refine ⟨⟨k + 1, ty ++ [32], q5, c5, by rw [hln], by rw [← hh.2.2.2.1]; congr 1; omega, ?_, hb5, hx5, by omega, by omega, .inl hh.1⟩, by simp [intOf]; omega⟩
                    rw [hln, ← byte_snoc]
                    exact HF5.out
                  case neg =>
                    have HFE : Hid ((ty = txt ++ List.replicate ls 10 ++ List.replicate sp 32 ∧ lk = t.line ∧ ck = t.col ∧ my = lx + ls + sp) ∨ (my = 65537 ∧ (sp : Int) > 65536 - (lx : Int) - (ls : Int))) := by
                      have hh := HC.out
                      rcases hst with ⟨h5, h6, h7, h8⟩ | ⟨h5, h6⟩
                      · have hlen : my = lx + ls + k := by rw [← hmye, h5, List.length_append, List.length_append, List.length_replicate, List.length_replicate, hh.2.2.2.2.2.2.1]
                        by_cases hks : k = sp
                        · subst hks
                          exact .inl ⟨h5, h8, by omega, hlen⟩
                        · right
                          exact ⟨by omega, by omega⟩
                      · exact .inr ⟨h5, h6⟩
                    have HOF : Hid (wr.ownsRow w.heap.size 5 1 (.slice q my cq) my (Lib.byteCells ty) ∧ Below w.heap.size w wr ∧ wr.heap[bx]? = some (.cells #[.int .i64 t.kind, .string ⟨t.text.toArray⟩, .int .u64 (t.num : Int), .int .i64 t.line, .int .i64 t.col] 34 (0, 0)) ∧ ty.length = my) := ⟨hown, hbel, hbx, hmye⟩
                    have HCB : Hid (my ≤ 65537) := hty
                    have eC : IntKind.i64.wrap (ck + (lt : Int)) = ck + (lt : Int) := by rw [IntKind.wrap_i64]; have := HC.out; omega
                    have hy1 : my + (⟨t.text.toArray⟩ : ByteArray).size ≤ maxLen := by rw [htz]; unfold maxLen; have := HC.out; omega
                    have hy2 : my + (⟨t.text.toArray⟩ : ByteArray).size ≤ 140737488355328 := by rw [htz]; have := HC.out; omega
                    have hy3 : w.heap.size ≤ wr.heap.size := hbel.size
                    by_cases hck : ck < t.col
                    · have fA : decide (ck < t.col) = true := decide_eq_true hck
                      have fB : decide ((my : Int) ≤ 65536) = false := decide_eq_false (by omega)
                      have fB' : decide (my ≤ 65536) = false := decide_eq_false (by omega)
                      clear hA hck hown hbel hbx hst hcke hmye hty hckb hk5
                      by_cases hT : my + lt ≤ 65536
                      · have g1 : decide ((65536 : Int) < (my : Int) + (lt : Int)) = false := decide_eq_false (by omega)
                        have g1' : decide (65536 < my + lt) = false := decide_eq_false (by omega)
                        have g2 : decide ((65536 : Int) < ((my + lt : Nat) : Int)) = false := decide_eq_false (by omega)
                        have HNX : Hid (lay X (i - (j + 1)) (j + 1) (ty ++ t.text) lk (ck + (lt : Int)) = RS ∧ LI X (j + 1) (ty ++ t.text) lk (ck + (lt : Int))) := by
                          have hh := HC.out
                          rcases HFE.out with ⟨h5, h6, h7, h8⟩ | ⟨h5, _⟩
                          · have hlay := HLAY.out
                            rw [if_neg (by rintro (h | h) <;> omega), Int.toNat_natCast, Int.toNat_natCast, ← h5, ← h7] at hlay
                            have hln : (if (0 : Int) < (ls : Int) then t.line else line) = lk := by split <;> omega
                            rw [hln] at hlay
                            refine ⟨hlay, ⟨fun h => absurd h (by omega), fun _ => ?_, ?_, ?_, ?_⟩⟩
                            · rw [show j + 1 - 1 = j by omega, HT.out, hh.2.2.2.2.2.1]
                              exact ⟨h6, by rw [h7]⟩
                            · rw [List.length_append, HOF.out.2.2.2, hh.2.2.2.2.2.1]; omega
                            · rw [List.length_append, HOF.out.2.2.2, hh.2.2.2.2.2.1]; have := HLI.out.c; rw [hh.2.2.2.2.2.2.1] at this; omega
                            · omega
                          · omega
                        clear hT HFE
                        go_wp2_with (refine Lib.wpList_append_own_string _ rfl (.tmp 91) (.tmp 93) 48 9 rfl w.heap.size 5 i0 Tryd.underlying48 Tryd.underlying9 hi0 hz0 hz1 hz2 (.slice q my cq) my (Lib.byteCells ty) rfl HOF.out.1 ⟨t.text.toArray⟩ rfl hy1 hy2 hy3 ?_; intro v5 w5 ho5 hg5 _; rw [htz] at ho5; obtain ⟨q5, c5, hv5⟩ := row_form ho5; subst hv5; have hb5 := row_grow HOF.out.1 hg5 HOF.out.2.1 hy3; have hx5 := box_grown HOF.out.1 hg5 HOF.out.2.2.1; obtain ⟨r0, r1, r2, r3, r4⟩ := cells5 hx5; have HF5 : Hid (w5.ownsRow w.heap.size 5 1 (.slice q5 (my + lt) c5) (my + lt) (Lib.byteCells ty ++ Lib.strCells ⟨t.text.toArray⟩)) := ho5; clear ho5 hg5)
                        have hln : (ty ++ t.text).length = my + lt := by rw [List.length_append, HOF.out.2.2.2, HC.out.2.2.2.2.2.1]
                        refine ⟨⟨j + 1, ty ++ t.text, lk, ck + (lt : Int), q5, c5, by rw [hln], rfl, rfl, rfl, hjl, ?_, hb5, HNX.out.2, HNX.out.1⟩, hm⟩
                        rw [hln, Lib.byteCells_append]
                        exact HF5.out
                      · have g1 : decide ((65536 : Int) < (my : Int) + (lt : Int)) = true := decide_eq_true (by omega)
                        have g1' : decide (65536 < my + lt) = true := decide_eq_true (by omega)
                        have g2 : decide ((65536 : Int) < ((my + lt : Nat) : Int)) = true := decide_eq_true (by omega)
                        have HRE : Hid (RS = ([], 30)) := by
                          have hlay := HLAY.out
                          rw [if_pos (by rcases HFE.out with ⟨h5, h6, h7, h8⟩ | ⟨h5, h6⟩; exact .inr (by omega); exact .inl h6)] at hlay
                          exact hlay.symm
                        clear hT HFE
                        go_wp2_with (refine Lib.wpList_append_own_string _ rfl (.tmp 91) (.tmp 93) 48 9 rfl w.heap.size 5 i0 Tryd.underlying48 Tryd.underlying9 hi0 hz0 hz1 hz2 (.slice q my cq) my (Lib.byteCells ty) rfl HOF.out.1 ⟨t.text.toArray⟩ rfl hy1 hy2 hy3 ?_; intro v5 w5 ho5 hg5 _; rw [htz] at ho5; obtain ⟨q5, c5, hv5⟩ := row_form ho5; subst hv5; have hb5 := row_grow HOF.out.1 hg5 HOF.out.2.1 hy3; have hx5 := box_grown HOF.out.1 hg5 HOF.out.2.2.1; obtain ⟨r0, r1, r2, r3, r4⟩ := cells5 hx5; clear ho5 hg5)
                        go_ret2
                        exact ⟨by rw [HRE.out]; first | rfl | simp, hb5⟩
                    · have fA : decide (ck < t.col) = false := decide_eq_false hck
                      clear hA hck hown hbel hbx hst hcke hmye hty hckb hk5
                      by_cases hT : my + lt ≤ 65536
                      · have g1 : decide ((65536 : Int) < (my : Int) + (lt : Int)) = false := decide_eq_false (by omega)
                        have g1' : decide (65536 < my + lt) = false := decide_eq_false (by omega)
                        have g2 : decide ((65536 : Int) < ((my + lt : Nat) : Int)) = false := decide_eq_false (by omega)
                        have HNX : Hid (lay X (i - (j + 1)) (j + 1) (ty ++ t.text) lk (ck + (lt : Int)) = RS ∧ LI X (j + 1) (ty ++ t.text) lk (ck + (lt : Int))) := by
                          have hh := HC.out
                          rcases HFE.out with ⟨h5, h6, h7, h8⟩ | ⟨h5, _⟩
                          · have hlay := HLAY.out
                            rw [if_neg (by rintro (h | h) <;> omega), Int.toNat_natCast, Int.toNat_natCast, ← h5, ← h7] at hlay
                            have hln : (if (0 : Int) < (ls : Int) then t.line else line) = lk := by split <;> omega
                            rw [hln] at hlay
                            refine ⟨hlay, ⟨fun h => absurd h (by omega), fun _ => ?_, ?_, ?_, ?_⟩⟩
                            · rw [show j + 1 - 1 = j by omega, HT.out, hh.2.2.2.2.2.1]
                              exact ⟨h6, by rw [h7]⟩
                            · rw [List.length_append, HOF.out.2.2.2, hh.2.2.2.2.2.1]; omega
                            · rw [List.length_append, HOF.out.2.2.2, hh.2.2.2.2.2.1]; have := HLI.out.c; rw [hh.2.2.2.2.2.2.1] at this; omega
                            · omega
                          · omega
                        clear hT HFE
                        go_wp2_with (refine Lib.wpList_append_own_string _ rfl (.tmp 91) (.tmp 93) 48 9 rfl w.heap.size 5 i0 Tryd.underlying48 Tryd.underlying9 hi0 hz0 hz1 hz2 (.slice q my cq) my (Lib.byteCells ty) rfl HOF.out.1 ⟨t.text.toArray⟩ rfl hy1 hy2 hy3 ?_; intro v5 w5 ho5 hg5 _; rw [htz] at ho5; obtain ⟨q5, c5, hv5⟩ := row_form ho5; subst hv5; have hb5 := row_grow HOF.out.1 hg5 HOF.out.2.1 hy3; have hx5 := box_grown HOF.out.1 hg5 HOF.out.2.2.1; obtain ⟨r0, r1, r2, r3, r4⟩ := cells5 hx5; have HF5 : Hid (w5.ownsRow w.heap.size 5 1 (.slice q5 (my + lt) c5) (my + lt) (Lib.byteCells ty ++ Lib.strCells ⟨t.text.toArray⟩)) := ho5; clear ho5 hg5)
                        have hln : (ty ++ t.text).length = my + lt := by rw [List.length_append, HOF.out.2.2.2, HC.out.2.2.2.2.2.1]
                        refine ⟨⟨j + 1, ty ++ t.text, lk, ck + (lt : Int), q5, c5, by rw [hln], rfl, rfl, rfl, hjl, ?_, hb5, HNX.out.2, HNX.out.1⟩, hm⟩
                        rw [hln, Lib.byteCells_append]
                        exact HF5.out
                      · have g1 : decide ((65536 : Int) < (my : Int) + (lt : Int)) = true := decide_eq_true (by omega)
                        have g1' : decide (65536 < my + lt) = true := decide_eq_true (by omega)
                        have g2 : decide ((65536 : Int) < ((my + lt : Nat) : Int)) = true := decide_eq_true (by omega)
                        have HRE : Hid (RS = ([], 30)) := by
                          have hlay := HLAY.out
                          rw [if_pos (by rcases HFE.out with ⟨h5, h6, h7, h8⟩ | ⟨h5, h6⟩; exact .inr (by omega); exact .inl h6)] at hlay
                          exact hlay.symm
                        clear hT HFE
                        go_wp2_with (refine Lib.wpList_append_own_string _ rfl (.tmp 91) (.tmp 93) 48 9 rfl w.heap.size 5 i0 Tryd.underlying48 Tryd.underlying9 hi0 hz0 hz1 hz2 (.slice q my cq) my (Lib.byteCells ty) rfl HOF.out.1 ⟨t.text.toArray⟩ rfl hy1 hy2 hy3 ?_; intro v5 w5 ho5 hg5 _; rw [htz] at ho5; obtain ⟨q5, c5, hv5⟩ := row_form ho5; subst hv5; have hb5 := row_grow HOF.out.1 hg5 HOF.out.2.1 hy3; have hx5 := box_grown HOF.out.1 hg5 HOF.out.2.2.1; obtain ⟨r0, r1, r2, r3, r4⟩ := cells5 hx5; clear ho5 hg5)
                        go_ret2
                        exact ⟨by rw [HRE.out]; first | rfl | simp, hb5⟩
    case pos =>
      have dl : decide ((i : Int) < (n : Int)) = true := decide_eq_true (by omega)
      have dl2 : decide (i < n) = true := decide_eq_true hlt
      have hm := measW hlt
      have i0 : (0 : Int) ≤ (i : Int) := by omega
      have i1 : (i : Int) < (n : Int) := by omega
      have ei : IntKind.i64.wrap ((i : Int) + 1) = ((i + 1 : Nat) : Int) := by rw [IntKind.wrap_i64]; omega
      obtain hx | ⟨b, o, rfl, hbl, hc⟩ := HI.out.below hbel
      · omega
      obtain ⟨x0, x1, x2, x3, x4⟩ := TX.at hc hlt
      obtain ⟨t, hte⟩ : ∃ t, X i = t := ⟨_, rfl⟩
      rw [hte] at x0 x1 x2 x3 x4
      have htr := HR.out i hlt
      rw [hte] at htr
      have HT : Hid (X i = t) := hte
      obtain ⟨wx, hwx⟩ : ∃ wx, wr.alloc (.cells #[.int .i64 t.kind, .string ⟨t.text.toArray⟩, .int .u64 (t.num : Int), .int .i64 t.line, .int .i64 t.col] 34) = wx := ⟨_, rfl⟩
      have hbx : Below wr.heap.size wr wx := by rw [← hwx]; exact (Below.refl _ wr).alloc (Nat.le_refl _) _
      have hxb : wx.heap[wr.heap.size]? = some (.cells #[.int .i64 t.kind, .string ⟨t.text.toArray⟩, .int .u64 (t.num : Int), .int .i64 t.line, .int .i64 t.col] 34 (0, 0)) := by rw [← hwx]; exact World.alloc_heap_new wr _
      have hbw : Below w.heap.size w wx := hbel.trans (hbx.mono hbel.size)
      obtain ⟨y0, y1, y2, y3, y4⟩ := cells5 hxb
      have HW : Hid (Below w.heap.size w wx ∧ wx.heap[wr.heap.size]? = some (.cells #[.int .i64 t.kind, .string ⟨t.text.toArray⟩, .int .u64 (t.num : Int), .int .i64 t.line, .int .i64 t.col] 34 (0, 0)) ∧ wr.heap.size < wx.heap.size ∧ (∀ j r, j < n → r < 5 → wx.cell? ⟨b, o + j * 5 + r, none⟩ = some ((tkCells (X j)).getD r undef)) ∧ b < wx.heap.size ∧ (∀ j, j < i → okT X j = true)) := ⟨hbw, hxb, (Array.getElem?_eq_some_iff.1 hxb).1, fun j r hj hr => (World.cell?_of_block (a := ⟨b, o + j * 5 + r, none⟩) (hbx.block b hbl)).trans (hc j r hj hr), Nat.lt_of_lt_of_le hbl hbx.size, hok⟩
      have HA2 : Hid (Calls Tryd.prog 15 #[.string ⟨t.text.toArray⟩, .bool false, .agg #[.int .i64 t.kind, .string ⟨t.text.toArray⟩, .int .u64 (t.num : Int), .int .i64 t.line, .int .i64 t.col], .agg #[.int .i64 t.kind, .string ⟨t.text.toArray⟩, .int .u64 (t.num : Int), .int .i64 t.line, .int .i64 t.col]] wx fun e w' => e = .returned (.bool (alB t)) ∧ Below w.heap.size w w' ∧ w'.heap[wr.heap.size]? = some (.cells #[.int .i64 t.kind, .string ⟨t.text.toArray⟩, .int .u64 (t.num : Int), .int .i64 t.line, .int .i64 t.col] 34 (0, 0)) ∧ wr.heap.size < w'.heap.size ∧ (∀ j r, j < n → r < 5 → w'.cell? ⟨b, o + j * 5 + r, none⟩ = some ((tkCells (X j)).getD r undef)) ∧ b < w'.heap.size) := by
        refine (reads_one t t.text rfl htr.x wx).mono fun e w' h9 => ?_
        obtain ⟨k1, k2, k3, k4, k5, k6⟩ := HW.out
        exact ⟨h9.1, k1.trans (h9.2.mono k1.size), (h9.2.block _ k3).trans k2, Nat.lt_of_lt_of_le k3 h9.2.size, fun j r hj hr => (World.cell?_of_block (a := ⟨b, o + j * 5 + r, none⟩) (h9.2.block b k5)).trans (k4 j r hj hr), Nat.lt_of_lt_of_le k5 h9.2.size⟩
      have HNO : Hid (okT X i = false → RS = ([], 12)) := fun h => HRN.out (wf_no hlt h)
      clear hbx hxb hbw hc hok hbel hte hbl HRN HRY
      cases hal : alB t with
      | false =>
        rw [hal] at HA2
        have HZ : Hid (RS = ([], 12)) := HNO.out (by unfold okT; rw [HT.out, hal, Bool.false_and, Bool.and_false, Bool.and_false])
        clear HNO htr hal
        go_wp2_with (go_at_call 15; (with_reducible refine (HA2.out).mono ?_); rintro e w2 ⟨rfl, hb2, hx2, hl2, hc2, hbl2⟩; obtain ⟨z0, z1, z2, z3, z4⟩ := cells5 hx2)
        go_ret2
        exact ⟨by rw [HZ.out]; first | rfl | simp, hb2⟩
      | true =>
        rw [hal] at HA2
        by_cases h1 : 1 ≤ t.line
        case neg =>
          have e1 : decide (t.line < 1) = true := decide_eq_true (by omega)
          have HZ : Hid (RS = ([], 12)) := HNO.out (by unfold okT; rw [HT.out, decide_eq_false h1, Bool.false_and])
          clear h1 HNO htr hal
          go_wp2_with (go_at_call 15; (with_reducible refine (HA2.out).mono ?_); rintro e w2 ⟨rfl, hb2, hx2, hl2, hc2, hbl2⟩; obtain ⟨z0, z1, z2, z3, z4⟩ := cells5 hx2)
          go_ret2
          exact ⟨by rw [HZ.out]; first | rfl | simp, hb2⟩
        case pos =>
          have e1 : decide (t.line < 1) = false := decide_eq_false (by omega)
          by_cases h2 : 1 ≤ t.col
          case neg =>
            have e2 : decide (t.col < 1) = true := decide_eq_true (by omega)
            have HZ : Hid (RS = ([], 12)) := HNO.out (by unfold okT; rw [HT.out, decide_eq_false h2, Bool.false_and, Bool.and_false])
            clear h1 h2 HNO htr hal
            go_wp2_with (go_at_call 15; (with_reducible refine (HA2.out).mono ?_); rintro e w2 ⟨rfl, hb2, hx2, hl2, hc2, hbl2⟩; obtain ⟨z0, z1, z2, z3, z4⟩ := cells5 hx2)
            go_ret2
            exact ⟨by rw [HZ.out]; first | rfl | simp, hb2⟩
          case pos =>
            have e2 : decide (t.col < 1) = false := decide_eq_false (by omega)
            have HOKF : Hid (flwB (X (i - 1)) t = true ∨ i = 0 → okT X i = true) := fun h => by
              unfold okT
              rw [HT.out, hal, decide_eq_true h1, decide_eq_true h2]
              rcases h with h | h
              · rw [h]; simp
              · rw [decide_eq_true h]; simp
            have HFB : Hid (flwB (X (i - 1)) t = false → i ≠ 0 → RS = ([], 12)) := fun h h9 => HNO.out (by unfold okT; rw [HT.out, h, decide_eq_false h9]; simp)
            have htc : 1 ≤ t.col ∧ t.col ≤ 9223372036854775807 := ⟨h2, htr.c.2⟩
            have HALT : Hid (alB t = true) := hal
            clear h1 h2 HNO hal
            by_cases hi0 : i = 0
            · have d0 : decide ((0 : Int) < (i : Int)) = false := decide_eq_false (by omega)
              have d0' : decide (0 < i) = false := decide_eq_false (by omega)
              have HN : Hid (∀ j, j < i + 1 → okT X j = true) := fun j hj => by
                by_cases e : j = i
                · subst e; exact HOKF.out (.inr hi0)
                · exact HW.out.2.2.2.2.2 j (by omega)
              clear hi0 HOKF HFB htr htc
              go_wp2_with (go_at_call 15; (with_reducible refine (HA2.out).mono ?_); rintro e w2 ⟨rfl, hb2, hx2, hl2, hc2, hbl2⟩; obtain ⟨z0, z1, z2, z3, z4⟩ := cells5 hx2)
              exact ⟨⟨i + 1, rfl, hlt, HN.out, hb2⟩, hm⟩
            · have d0 : decide ((0 : Int) < (i : Int)) = true := decide_eq_true (by omega)
              have d0' : decide (0 < i) = true := decide_eq_true (by omega)
              obtain ⟨i', hi'⟩ : ∃ i', i = i' + 1 := ⟨i - 1, by omega⟩
              have es : IntKind.i64.wrap ((i : Int) - 1) = (i' : Int) := by rw [IntKind.wrap_i64]; omega
              have i2 : (0 : Int) ≤ (i' : Int) := by omega
              have i3 : (i' : Int) < (n : Int) := by omega
              obtain ⟨u, hu⟩ : ∃ u, X i' = u := ⟨_, rfl⟩
              have hi1 : i - 1 = i' := by omega
              rw [hi1, hu] at HOKF HFB
              have hau := ok_al (HW.out.2.2.2.2.2 i' (by omega))
              have hur := HR.out i' (by omega)
              rw [hu] at hau hur
              have HF : Hid (∀ W, Calls Tryd.prog 16 #[.agg #[.int .i64 u.kind, .string ⟨u.text.toArray⟩, .int .u64 (u.num : Int), .int .i64 u.line, .int .i64 u.col], .agg #[.int .i64 t.kind, .string ⟨t.text.toArray⟩, .int .u64 (t.num : Int), .int .i64 t.line, .int .i64 t.col]] W fun e w' => e = .returned (.bool (flwB u t)) ∧ Below W.heap.size W w') := fun W => rfollows_any u t hau.2.2.1 HALT.out ⟨hau.2.1, hur.c.2⟩ htc W
              obtain ⟨fl, hfl⟩ : ∃ fl, flwB u t = fl := ⟨_, rfl⟩
              rw [hfl] at HF HOKF HFB
              have hu9 : i' < n := by omega
              have HU : Hid (X i' = u) := hu
              have HI0 : Hid (i ≠ 0) := hi0
              clear hi0 htr htc hau hur hi1 hu hfl hi'
              go_wp2_with (go_at_call 15; (with_reducible refine (HA2.out).mono ?_); rintro e w2 ⟨rfl, hb2, hx2, hl2, hc2, hbl2⟩; obtain ⟨z0, z1, z2, z3, z4⟩ := cells5 hx2)
              have hS : ∀ W, Below w2.heap.size w2 W → ((W.cell? ⟨b, o + i' * 5, none⟩ = some (.int .i64 u.kind) ∧ W.cell? ⟨b, o + i' * 5 + 1, none⟩ = some (.string ⟨u.text.toArray⟩) ∧ W.cell? ⟨b, o + i' * 5 + 2, none⟩ = some (.int .u64 (u.num : Int)) ∧ W.cell? ⟨b, o + i' * 5 + 3, none⟩ = some (.int .i64 u.line) ∧ W.cell? ⟨b, o + i' * 5 + 4, none⟩ = some (.int .i64 u.col)) ∧ (W.cell? ⟨wr.heap.size, 0, none⟩ = some (.int .i64 t.kind) ∧ W.cell? ⟨wr.heap.size, 1, none⟩ = some (.string ⟨t.text.toArray⟩) ∧ W.cell? ⟨wr.heap.size, 2, none⟩ = some (.int .u64 (t.num : Int)) ∧ W.cell? ⟨wr.heap.size, 3, none⟩ = some (.int .i64 t.line) ∧ W.cell? ⟨wr.heap.size, 4, none⟩ = some (.int .i64 t.col))) := fun W hW => by
                have h9 := TX.at (W := W) (X := X) (fun j r hj hr => (World.cell?_of_block (a := ⟨b, o + j * 5 + r, none⟩) (hW.block b hbl2)).trans (hc2 j r hj hr)) hu9
                rw [HU.out] at h9
                exact ⟨h9, cells5 ((hW.block _ hl2).trans hx2)⟩
              have s0 := hS w2.drew (Below.refl _ w2).drew
              have HSS : Hid (∀ W, Below w2.heap.size w2 W → _) := hS
              have HBF : Hid (Below w.heap.size w w2 ∧ Below w2.heap.size w2 w2.drew ∧ Below w.heap.size w w2.drew) := ⟨hb2, (Below.refl _ w2).drew, hb2.drew⟩
              clear hS hx2 hl2 hc2 hbl2 hb2 x0 x1 x2 x3 x4 y0 y1 y2 y3 y4 z0 z1 z2 z3 z4
              go_region_held3 (fun W => (W.cell? ⟨b, o + i' * 5, none⟩ = some (.int .i64 u.kind) ∧ W.cell? ⟨b, o + i' * 5 + 1, none⟩ = some (.string ⟨u.text.toArray⟩) ∧ W.cell? ⟨b, o + i' * 5 + 2, none⟩ = some (.int .u64 (u.num : Int)) ∧ W.cell? ⟨b, o + i' * 5 + 3, none⟩ = some (.int .i64 u.line) ∧ W.cell? ⟨b, o + i' * 5 + 4, none⟩ = some (.int .i64 u.col)) ∧ (W.cell? ⟨wr.heap.size, 0, none⟩ = some (.int .i64 t.kind) ∧ W.cell? ⟨wr.heap.size, 1, none⟩ = some (.string ⟨t.text.toArray⟩) ∧ W.cell? ⟨wr.heap.size, 2, none⟩ = some (.int .u64 (t.num : Int)) ∧ W.cell? ⟨wr.heap.size, 3, none⟩ = some (.int .i64 t.line) ∧ W.cell? ⟨wr.heap.size, 4, none⟩ = some (.int .i64 t.col))) (first | exact s0 | exact s7 | go_keep) ((go_at_call 16; (with_reducible refine (HF.out _).mono ?_); rintro e9 w9 ⟨rfl, hb9⟩; have hb99 : Below w2.heap.size w2 w9 := HBF.out.2.1.trans hb9; have s7 := HSS.out w9 hb99))
              all_goals
                have hbF : Below w.heap.size w w9 := HBF.out.1.trans (hb99.mono HBF.out.1.size)
                clear HSS HF s7 s0
                cases fl with
                | true =>
                  have HN : Hid (∀ j, j < i + 1 → okT X j = true) := fun j hj => by
                    by_cases e : j = i
                    · subst e; exact HOKF.out (.inl rfl)
                    · exact HW.out.2.2.2.2.2 j (by omega)
                  clear HOKF HFB
                  go_wp2
                  first
                    | exact ⟨⟨i + 1, rfl, hlt, HN.out, hbF⟩, hm⟩
                    | exact ⟨⟨_, _, _, _, _, _, _, _, _, _, _, _, _, _, _, _, _, _, _, _, _, _, _, _, _, _, _, _, _, _, _, _, _, _, ⟨⟨i + 1, rfl, hlt, HN.out, hbF⟩, rfl⟩⟩, hm⟩
                | false =>
                  have HZ : Hid (RS = ([], 12)) := HFB.out rfl HI0.out
                  clear HOKF HFB
                  go_wp2
                  go_ret2
                  exact ⟨by rw [HZ.out]; first | rfl | simp, hbF⟩
end Go.Proofs.YtckhliilndfljaaDoor
