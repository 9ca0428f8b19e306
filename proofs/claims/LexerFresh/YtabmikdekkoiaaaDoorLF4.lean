import Derived.Test.YtabmikdekkoiaaaDoorLF3
import Derived.Deep.Cut
import Derived.WalkMore
import Derived.Deep.RegionHeld3
import Derived.BigQuiet
namespace Go.Proofs.YtabmikdekkoiaaaDoor
open Go.ChangeShapes Go.WideShapes Go.ChangeAt Go.RowKit
set_option linter.unusedVariables false
set_option linter.unusedSimpArgs false

theorem below_dr (B : Nat) (W : World) (n : Nat) : Below B W (W.drewN n) := by
  induction n with
  | zero => exact Below.refl _ _
  | succ n ih => exact ih.drew
theorem neq_tkV (a b : Int) (W : World) : (binOp .neq 34 (.agg #[.int .i64 a, .string ⟨#[]⟩, .int .u64 0, .int .i64 b, .int .i64 0]) (.agg #[.int .i64 a, .string ⟨#[]⟩, .int .u64 0, .int .i64 b, .int .i64 0])).run Tryd.prog W = .ok (.bool false) W := by
  go_simp
theorem meas5 {n i : Nat} (h : i < n) : n - (intOf (.int .i64 ((i + 1 : Nat) : Int))).toNat < n - (intOf (.int .i64 (i : Int))).toNat := by
  simp [intOf]
  omega
set_option maxRecDepth 100000 in
set_option maxHeartbeats 8000000 in
theorem fresh_law (a b : Bs) (ha : a.length ≤ maxLen) (hb : b.length ≤ maxLen) (w : World) (g : Gr w) :
    Calls Tryd.prog 3 #[.string ⟨a.toArray⟩, .string ⟨b.toArray⟩] w fun e w' => e = .returned (.bool true) ∧ Below w.heap.size w w' := by
  have haz : (⟨a.toArray⟩ : ByteArray).size = a.length := by simp [ByteArray.size]
  have hbz : (⟨b.toArray⟩ : ByteArray).size = b.length := by simp [ByteArray.size]
  obtain ⟨la, hla⟩ : ∃ la, a.length = la := ⟨_, rfl⟩
  obtain ⟨lb', hlb'⟩ : ∃ lb', b.length = lb' := ⟨_, rfl⟩
  have HA : Hid (Calls Tryd.prog 6 #[] w fun e w' => e = .returned (.bool true) ∧ Below w.heap.size w w') := awake_any w g
  have HSC : Hid (∀ (x : Bs) (w' : World), (x = a ∨ x = b) → Below w.heap.size w w' → Calls Tryd.prog 7 #[.string ⟨x.toArray⟩] w' fun e w'' => ∃ p c ev, e = .returned (.tuple #[.slice p (toks x).length c, ev]) ∧ Own w'' w'.heap.size 34 5 (.slice p (toks x).length c) (toks x).length (TF (toks x)) ∧ Below w'.heap.size w' w'') := fun x w' hx h => scan_tk x (by rcases hx with rfl | rfl; exact ha; exact hb) w' (g.keep h)
  rw [hla] at haz
  rw [hlb'] at hbz
  clear ha hb hla hlb' g
  obtain ⟨d, hd⟩ : ∃ d : Bool, decide (4000 < wrap64 ((la : Int) + (lb' : Int))) = d := ⟨_, rfl⟩
  go_enter Tryd.func3, Tryd.ntmps3
  cases d
  case true =>
    go_wp2
    go_ret
    exact ⟨rfl, Below.refl _ _⟩
  case false =>
    go_wp2_with (go_at_call 6; (with_reducible refine (HA.out).mono ?_); rintro e w1 ⟨rfl, hb1⟩)
    obtain ⟨ta, hta⟩ : ∃ ta, toks a = ta := ⟨_, rfl⟩
    obtain ⟨tb', htb⟩ : ∃ tb', toks b = tb' := ⟨_, rfl⟩
    have HTK : Hid (∀ i, toks (pick a b i) = pick ta tb' i) := fun i => by unfold pick; split; exact hta; exact htb
    have HLN : Hid (∀ i, (pick ta tb' i).length ≤ 16384) := fun i => by rw [← HTK.out]; exact toks_len _
    have HTA : Hid (toks a = ta ∧ toks b = tb') := ⟨hta, htb⟩
    obtain ⟨wB, hwB⟩ : ∃ wB, ((w1.alloc (.cells #[.string ⟨a.toArray⟩, .string ⟨b.toArray⟩, .string ⟨a.toArray⟩, .string ⟨b.toArray⟩, .string ⟨a.toArray⟩] 23)).alloc (.cells #[.slice none 0 0, .slice none 0 0, .slice none 0 0, .slice none 0 0, .slice none 0 0] 25)).alloc (.cells #[.slice none 0 0, .slice none 0 0, .slice none 0 0, .slice none 0 0, .slice none 0 0] 25) = wB := ⟨_, rfl⟩
    have hD0 : Bl.Ok (⟨w1.heap.size + 3, w1.heap.size, w1.heap.size + 1, w1.heap.size + 1 + 1⟩ : Bl) w := ⟨hb1.size, by show w1.heap.size < w1.heap.size + 1; omega, by show w1.heap.size + 1 < w1.heap.size + 1 + 1; omega, by show w1.heap.size + 1 + 1 < w1.heap.size + 3; omega⟩
    have hF0 : FS (⟨w1.heap.size + 3, w1.heap.size, w1.heap.size + 1, w1.heap.size + 1 + 1⟩ : Bl) w (fun j => .string ⟨(pick a b j).toArray⟩) (fun _ => .slice none 0 0) (fun _ => 0) (fun _ _ => undef) wB := by
      have hbB : Below w1.heap.size w1 wB := by rw [← hwB]; exact (((Below.refl _ w1).alloc (Nat.le_refl _) _).alloc (by simp) _).alloc (by simp; omega) _
      refine ⟨⟨fun k hk => World.ownsRow_nil _ _ _ _, fun j k _ _ _ => .inl rfl⟩, ?_, ?_, ?_, hb1.trans (hbB.mono hb1.size), ?_⟩
      · rw [← hwB]
        exact (Below.heap_alloc _ _ _ (by simp <;> omega)).trans ((Below.heap_alloc _ _ _ (by simp)).trans (World.alloc_heap_new w1 _))
      · rw [← hwB]
        refine (Below.heap_alloc _ _ _ (by simp)).trans ?_
        have h := World.alloc_heap_new (w1.alloc (.cells #[.string ⟨a.toArray⟩, .string ⟨b.toArray⟩, .string ⟨a.toArray⟩, .string ⟨b.toArray⟩, .string ⟨a.toArray⟩] 23)) (.cells #[.slice none 0 0, .slice none 0 0, .slice none 0 0, .slice none 0 0, .slice none 0 0] 25 (0, 0))
        rw [World.size_alloc] at h
        exact h
      · rw [← hwB]
        have h := World.alloc_heap_new ((w1.alloc (.cells #[.string ⟨a.toArray⟩, .string ⟨b.toArray⟩, .string ⟨a.toArray⟩, .string ⟨b.toArray⟩, .string ⟨a.toArray⟩] 23)).alloc (.cells #[.slice none 0 0, .slice none 0 0, .slice none 0 0, .slice none 0 0, .slice none 0 0] 25)) (.cells #[.slice none 0 0, .slice none 0 0, .slice none 0 0, .slice none 0 0, .slice none 0 0] 25 (0, 0))
        rw [World.size_alloc, World.size_alloc] at h
        exact h
      · show w1.heap.size + 3 ≤ wB.heap.size
        rw [← hwB]
        simp
    have HF0 : Hid (FS (⟨w1.heap.size + 3, w1.heap.size, w1.heap.size + 1, w1.heap.size + 1 + 1⟩ : Bl) w (fun j => .string ⟨(pick a b j).toArray⟩) (fun _ => .slice none 0 0) (fun _ => 0) (fun _ _ => undef) wB) := hF0
    have HD : Hid (Bl.Ok (⟨w1.heap.size + 3, w1.heap.size, w1.heap.size + 1, w1.heap.size + 1 + 1⟩ : Bl) w) := hD0
    rw [hwB]
    clear hF0 hD0 hwB hta htb hb1 HA hd haz hbz
    go_loopw [8] (fun v wr => ∃ (i : Nat) (V : Nat → Value) (M : Nat → Nat) (F : Nat → Nat → Value), v = .int .i64 (i : Int) ∧ i ≤ 5 ∧ FS (⟨w1.heap.size + 3, w1.heap.size, w1.heap.size + 1, w1.heap.size + 1 + 1⟩ : Bl) w (fun j => .string ⟨(pick a b j).toArray⟩) V M F wr ∧ Fil ta tb' i M F) (fun v _ => 5 - (intOf v).toNat)
    case atStart => exact ⟨0, _, _, _, rfl, by omega, HF0.out, fun j hj => by omega⟩
    case round =>
      clear HF0
      obtain ⟨i, V, M, F, rfl, hi5, hfs, hfil⟩ := hrel
      by_cases hlt : i < 5
      case neg =>
        have dl : decide ((i : Int) < 5) = false := decide_eq_false (by omega)
        obtain rfl : i = 5 := by omega
        have HS2 : Hid (FS (⟨w1.heap.size + 3, w1.heap.size, w1.heap.size + 1, w1.heap.size + 1 + 1⟩ : Bl) w (fun j => .string ⟨(pick a b j).toArray⟩) V M F wr ∧ Fil ta tb' 5 M F) := ⟨hfs, hfil⟩
        clear hfs hfil
        go_wp2
        go_loopw [9] (fun v wr => ∃ i : Nat, v = .int .i64 (i : Int) ∧ i ≤ 5 ∧ FS (⟨w1.heap.size + 3, w1.heap.size, w1.heap.size + 1, w1.heap.size + 1 + 1⟩ : Bl) w (fun j => .string ⟨(pick a b j).toArray⟩) V M F wr) (fun v _ => 5 - (intOf v).toNat)
        case atStart => exact ⟨0, rfl, by omega, HS2.out.1⟩
        case round =>
          obtain ⟨i, rfl, hi5, hfs⟩ := hrel
          by_cases hlt : i < 5
          case neg =>
            have dl : decide ((i : Int) < 5) = false := decide_eq_false (by omega)
            obtain rfl : i = 5 := by omega
            have HS3 : Hid (FS (⟨w1.heap.size + 3, w1.heap.size, w1.heap.size + 1, w1.heap.size + 1 + 1⟩ : Bl) w (fun j => .string ⟨(pick a b j).toArray⟩) V M F wr ∧ Fil ta tb' 5 M F) := ⟨hfs, HS2.out.2⟩
            clear hfs HS2
            go_wp2
            obtain ⟨mb, hmb⟩ : ∃ mb, wr.heap.size = mb := ⟨_, rfl⟩
            obtain ⟨wm, hwm⟩ : ∃ wm, wr.alloc (.cells #[.slice none 0 0, .slice none 0 0, .slice none 0 0, .slice none 0 0, .slice none 0 0] 25) = wm := ⟨_, rfl⟩
            have hbm : Below wr.heap.size wr wm := by rw [← hwm]; exact (Below.refl _ wr).alloc (Nat.le_refl _) _
            have hmbk : wm.heap[mb]? = some (.cells (a5 fun _ => .slice none 0 0) 25 (0, 0)) := by rw [← hwm, ← hmb]; exact World.alloc_heap_new wr _
            have HM0 : Hid (FS (⟨w1.heap.size + 3, w1.heap.size, w1.heap.size + 1, w1.heap.size + 1 + 1⟩ : Bl) w (fun j => .string ⟨(pick a b j).toArray⟩) V M F wm ∧ wm.heap[mb]? = some (.cells (a5 fun _ => .slice none 0 0) 25 (0, 0)) ∧ Mk ta tb' 0 0 M F) := ⟨HS3.out.1.later HD.out hbm, hmbk, fun j hj => by omega, fun x hx => by omega, fun j hj => ⟨(HS3.out.2 j hj).1.1, (HS3.out.2 j hj).2.1, (HS3.out.2 j hj).2.2⟩⟩
            have HMB : Hid (w1.heap.size + 3 ≤ mb) := by rw [← hmb]; exact HS3.out.1.bs
            have HME : Hid (∀ j, j < 5 → M j = (pick ta tb' j).length) := fun j hj => (HS3.out.2 j hj).1.1
            rw [hwm, hmb]
            clear hwm hbm hmbk hmb HS3
            go_loopw [11] (fun v wr => ∃ (k : Nat) (F : Nat → Nat → Value), v = .int .i64 (k : Int) ∧ k ≤ 5 ∧ FS (⟨w1.heap.size + 3, w1.heap.size, w1.heap.size + 1, w1.heap.size + 1 + 1⟩ : Bl) w (fun j => .string ⟨(pick a b j).toArray⟩) V M F wr ∧ wr.heap[mb]? = some (.cells (a5 fun _ => .slice none 0 0) 25 (0, 0)) ∧ Mk ta tb' k 0 M F) (fun v _ => 5 - (intOf v).toNat)
            case atStart => exact ⟨0, F, rfl, by omega, HM0.out⟩
            case round =>
              clear HM0
              obtain ⟨k, F2, rfl, hk5, hfs, hmk, hMk⟩ := hrel
              by_cases hlt : k < 5
              case neg =>
                have dl : decide ((k : Int) < 5) = false := decide_eq_false (by omega)
                obtain rfl : k = 5 := by omega
                have HS4 : Hid (FS (⟨w1.heap.size + 3, w1.heap.size, w1.heap.size + 1, w1.heap.size + 1 + 1⟩ : Bl) w (fun j => .string ⟨(pick a b j).toArray⟩) V M F2 wr ∧ wr.heap[mb]? = some (.cells (a5 fun _ => .slice none 0 0) 25 (0, 0)) ∧ Mk ta tb' 5 0 M F2) := ⟨hfs, hmk, hMk⟩
                clear hfs hmk hMk
                obtain ⟨i0, hi, hz0, hz1, hz2⟩ := info_parts infoTk
                have HI : Hid (∀ j, j < 5 → ∀ x, x < M j * 5 → F2 j x = markT j x) := fun j hj => HS4.out.2.2.1 j hj
                have HF9 : Hid (∀ j, j < 5 → M (5 + j) = (pick ta tb' j).length ∧ F2 (5 + j) = TF (pick ta tb' j)) := fun j hj => (HS4.out.2.2.2.2 j hj).2
                have HG0 : Hid (GR (⟨w1.heap.size + 3, w1.heap.size, w1.heap.size + 1, w1.heap.size + 1 + 1⟩ : Bl) mb w (fun j => .string ⟨(pick a b j).toArray⟩) V M F2 0 (fun _ => .slice none 0 0) M F2 wr) := ⟨HS4.out.1, HS4.out.2.1, fun j hj => by omega, fun j hj => by omega, fun i j hi => by omega⟩
                clear HS4
                go_wp2
                go_loopw [13] (fun v wr => ∃ (k : Nat) (Z : Nat → Value) (N : Nat → Nat) (G : Nat → Nat → Value), v = .int .i64 (k : Int) ∧ k ≤ 5 ∧ GR (⟨w1.heap.size + 3, w1.heap.size, w1.heap.size + 1, w1.heap.size + 1 + 1⟩ : Bl) mb w (fun j => .string ⟨(pick a b j).toArray⟩) V M F2 k Z N G wr ∧ Dn M k N G) (fun v _ => 5 - (intOf v).toNat)
                case atStart => exact ⟨0, _, _, _, rfl, by omega, HG0.out, fun j hj => by omega⟩
                case round =>
                  clear HG0
                  obtain ⟨k, Z, N, G, rfl, hk5, hgr, hdn⟩ := hrel
                  by_cases hlt : k < 5
                  case neg =>
                    have dl : decide ((k : Int) < 5) = false := decide_eq_false (by omega)
                    obtain rfl : k = 5 := by omega
                    have HS5 : Hid (GR (⟨w1.heap.size + 3, w1.heap.size, w1.heap.size + 1, w1.heap.size + 1 + 1⟩ : Bl) mb w (fun j => .string ⟨(pick a b j).toArray⟩) V M F2 5 Z N G wr ∧ Dn M 5 N G) := ⟨hgr, hdn⟩
                    clear hgr hdn
                    go_wp2
                    go_loopw [15] (fun v wr => ∃ k : Nat, v = .int .i64 (k : Int) ∧ k ≤ 5 ∧ GR (⟨w1.heap.size + 3, w1.heap.size, w1.heap.size + 1, w1.heap.size + 1 + 1⟩ : Bl) mb w (fun j => .string ⟨(pick a b j).toArray⟩) V M F2 5 Z N G wr) (fun v _ => 5 - (intOf v).toNat)
                    case atStart => exact ⟨0, rfl, by omega, HS5.out.1⟩
                    case round =>
                      obtain ⟨k, rfl, hk5, hgr⟩ := hrel
                      by_cases hlt : k < 5
                      case neg =>
                        have dl : decide ((k : Int) < 5) = false := decide_eq_false (by omega)
                        obtain rfl : k = 5 := by omega
                        have HS6 : Hid (FS (⟨w1.heap.size + 3, w1.heap.size, w1.heap.size + 1, w1.heap.size + 1 + 1⟩ : Bl) w (fun j => .string ⟨(pick a b j).toArray⟩) V M F2 wr) := hgr.fs
                        clear hgr HS5
                        have HS1 := HSC.out a
                        have HS2 := HSC.out b
                        rw [HTA.out.1] at HS1
                        rw [HTA.out.2] at HS2
                        have H5 : Hid (∀ W, Below wr.heap.size wr W → FS (⟨w1.heap.size + 3, w1.heap.size, w1.heap.size + 1, w1.heap.size + 1 + 1⟩ : Bl) w (fun j => .string ⟨(pick a b j).toArray⟩) V M F2 W) := fun W h => HS6.out.later HD.out h
                        have c5 : ∀ W, Below wr.heap.size wr W → (W.cell? ⟨w1.heap.size + 1 + 1, 0, none⟩ = some (V 5) ∧ W.cell? ⟨w1.heap.size + 1 + 1, 1, none⟩ = some (V 6)) := fun W h => ⟨a5_cell (f := fun j => V (5 + j)) (H5.out W h).u (by omega : 0 < 5), a5_cell (f := fun j => V (5 + j)) (H5.out W h).u (by omega : 1 < 5)⟩
                        have HA1 : Hid (∀ W, Below wr.heap.size wr W → Calls Tryd.prog 7 #[.string ⟨a.toArray⟩] W fun e w'' => ∃ p c ev, e = .returned (.tuple #[.slice p ta.length c, ev]) ∧ Own w'' W.heap.size 34 5 (.slice p ta.length c) ta.length (TF ta) ∧ Below W.heap.size W w'') := fun W h => HS1 W (.inl rfl) (HS6.out.be.trans (h.mono HS6.out.be.size))
                        have HB1 : Hid (∀ W, Below wr.heap.size wr W → Calls Tryd.prog 7 #[.string ⟨b.toArray⟩] W fun e w'' => ∃ p c ev, e = .returned (.tuple #[.slice p tb'.length c, ev]) ∧ Own w'' W.heap.size 34 5 (.slice p tb'.length c) tb'.length (TF tb') ∧ Below W.heap.size W w'') := fun W h => HS2 W (.inr rfl) (HS6.out.be.trans (h.mono HS6.out.be.size))
                        have HSA : Hid (∀ (W : World) (v : Value) (B9 : Nat), Below wr.heap.size wr W → Own W B9 34 5 v ta.length (TF ta) → Calls Tryd.prog 9 #[v, V 5] W fun e w' => e = .returned (.bool true) ∧ Below W.heap.size W w') := fun W v B9 h ho => row_same (HLN.out 0) ho ((H5.out W h).ls.own 5 (by omega)) ⟨rfl, rfl⟩ (HF9.out 0 (by omega))
                        have HSB : Hid (∀ (W : World) (v : Value) (B9 : Nat), Below wr.heap.size wr W → Own W B9 34 5 v tb'.length (TF tb') → Calls Tryd.prog 9 #[v, V 6] W fun e w' => e = .returned (.bool true) ∧ Below W.heap.size W w') := fun W v B9 h ho => row_same (HLN.out 1) ho ((H5.out W h).ls.own 6 (by omega)) ⟨rfl, rfl⟩ (HF9.out 1 (by omega))
                        clear HS1 HS2 HSC HTA HTK
                        go_wp2_with (first
                          | (go_at_call 7; (with_reducible refine (HA1.out _ (Below.refl _ _)).mono ?_); rintro e w2 ⟨p2, c2, ev2, rfl, ho2, hb2⟩)
                          | (go_at_call 7; (with_reducible refine (HB1.out _ hb2).mono ?_); rintro e w3 ⟨p3, c3, ev3, rfl, ho3, hb3⟩; have hb23 := hb2.trans (hb3.mono hb2.size); have ho23 := ho2.more hb3; obtain ⟨q5, q6⟩ := c5 w3 hb23)
                          | (go_at_call 9; (with_reducible refine (HSA.out _ _ _ hb23 ho23).mono ?_); rintro e w4 ⟨rfl, hb4⟩; have hb24 := hb23.trans (hb4.mono hb23.size); have ho34 := ho3.more hb4; clear q5 q6; obtain ⟨q5, q6⟩ := c5 w4 hb24)
                          | (go_at_call 9; (with_reducible refine (HSB.out _ _ _ hb24 ho34).mono ?_); rintro e w5 ⟨rfl, hb5⟩; have hb25 := hb24.trans (hb5.mono hb24.size)))
                        go_ret
                        exact ⟨by simp, HS6.out.be.trans (hb25.mono HS6.out.be.size)⟩
                      case pos =>
                        have dl : decide ((k : Int) < 5) = true := decide_eq_true (by omega)
                        have hm := meas5 hlt
                        have k0 : (0 : Int) ≤ (k : Int) := by omega
                        have k1 : (k : Int) < 5 := by omega
                        have ek : IntKind.i64.wrap ((k : Int) + 1) = ((k + 1 : Nat) : Int) := by rw [IntKind.wrap_i64]; omega
                        have eT : IntKind.i64.wrap (1000 + (k : Int)) = 1000 + (k : Int) := by rw [IntKind.wrap_i64]; omega
                        have eT2 : IntKind.i64.wrap (2000 + (k : Int)) = 2000 + (k : Int) := by rw [IntKind.wrap_i64]; omega
                        obtain ⟨p, ck, hv, hpp⟩ := own_form' (hgr.fs.ls.own k (by omega))
                        obtain ⟨q, cq, hzv, hqq⟩ := own_form' (hgr.own k hlt)
                        have hMk9 : M k ≤ 16384 := by rw [HME.out k hlt]; exact HLN.out k
                        have hNk : N k = M k + 64 := (HS5.out.2 k hlt).1
                        obtain ⟨mk, hmk⟩ : ∃ mk, M k = mk := ⟨_, rfl⟩
                        obtain ⟨nk, hnk⟩ : ∃ nk, N k = nk := ⟨_, rfl⟩
                        have HROW : Hid (∀ wr, GR (⟨w1.heap.size + 3, w1.heap.size, w1.heap.size + 1, w1.heap.size + 1 + 1⟩ : Bl) mb w (fun j => .string ⟨(pick a b j).toArray⟩) V M F2 5 Z N G wr → wr.cell? ⟨w1.heap.size + 1, k, none⟩ = some (.slice p mk ck) ∧ wr.cell? ⟨mb, k, none⟩ = some (.slice q nk cq) ∧ (∀ g, p = some ⟨g, 0, none⟩ → ∀ x, x < mk * 5 → wr.cell? ⟨g, x, none⟩ = some (markT k x)) ∧ ∀ g, q = some ⟨g, 0, none⟩ → ∀ x, x < nk * 5 → wr.cell? ⟨g, x, none⟩ = some (mixT k mk x)) := fun wr h => by
                          refine ⟨?_, ?_, fun g hg x hx => ?_, fun g hg x hx => ?_⟩
                          · have h9 := a5_cell h.fs.l hlt; rw [hv, hmk] at h9; exact h9
                          · have h9 := a5_cell h.mb hlt; rw [hzv, hnk] at h9; exact h9
                          · have h9 := h.fs.ls.own k (by omega)
                            rw [hv, hg] at h9
                            rw [← HI.out k hlt x (by rw [hmk]; exact hx)]
                            exact h9.cell (by rw [hmk]; exact hx)
                          · have h9 := h.own k hlt
                            rw [hzv, hg] at h9
                            rw [← hmk, ← (HS5.out.2 k hlt).2 x (by rw [hnk]; exact hx)]
                            exact h9.cell (by rw [hnk]; exact hx)
                        rw [hmk] at hpp hMk9
                        rw [hnk, hmk] at hNk
                        rw [hnk] at hqq
                        have HG5 : Hid (GR (⟨w1.heap.size + 3, w1.heap.size, w1.heap.size + 1, w1.heap.size + 1 + 1⟩ : Bl) mb w (fun j => .string ⟨(pick a b j).toArray⟩) V M F2 5 Z N G wr) := hgr
                        have cl := (HROW.out wr hgr).1
                        clear hgr hv hzv hmk hnk
                        go_wp2
                        go_loopw [17] (fun v wr => ∃ x : Nat, v = .int .i64 (x : Int) ∧ x ≤ nk ∧ GR (⟨w1.heap.size + 3, w1.heap.size, w1.heap.size + 1, w1.heap.size + 1 + 1⟩ : Bl) mb w (fun j => .string ⟨(pick a b j).toArray⟩) V M F2 5 Z N G wr) (fun v _ => nk - (intOf v).toNat)
                        case atStart => exact ⟨0, rfl, Nat.zero_le _, HG5.out⟩
                        case round =>
                          clear HG5 cl
                          obtain ⟨x, rfl, hx, hgr⟩ := hrel
                          obtain ⟨cl, cz, rp, rq⟩ := HROW.out wr hgr
                          have HG6 : Hid (GR (⟨w1.heap.size + 3, w1.heap.size, w1.heap.size + 1, w1.heap.size + 1 + 1⟩ : Bl) mb w (fun j => .string ⟨(pick a b j).toArray⟩) V M F2 5 Z N G wr) := hgr
                          clear hgr
                          by_cases hlt2 : x < nk
                          · have dl2 : decide ((x : Int) < (nk : Int)) = true := decide_eq_true (by omega)
                            have dl3 : decide (x < nk) = true := decide_eq_true (by omega)
                            have hm2 := meas5 hlt2
                            have x0 : (0 : Int) ≤ (x : Int) := by omega
                            have x1 : (x : Int) < (nk : Int) := by omega
                            have ex : IntKind.i64.wrap ((x : Int) + 1) = ((x + 1 : Nat) : Int) := by rw [IntKind.wrap_i64]; omega
                            obtain ⟨gz, rfl⟩ : ∃ g, q = some ⟨g, 0, none⟩ := by
                              rcases hqq with h | h
                              · omega
                              · exact h
                            have rz := rq gz rfl
                            have s0 := rz (x * 5) (by omega)
                            have s1 := rz (x * 5 + 1) (by omega)
                            have s2 := rz (x * 5 + 2) (by omega)
                            have s3 := rz (x * 5 + 3) (by omega)
                            have s4 := rz (x * 5 + 4) (by omega)
                            unfold mixT at s0 s1 s2 s3 s4
                            by_cases hm3 : x < mk
                            · obtain ⟨m0, m1, m2, m3, m4⟩ := markT_at k x
                              rw [if_pos (by omega), m0] at s0
                              rw [if_pos (by omega), m1] at s1
                              rw [if_pos (by omega), m2] at s2
                              rw [if_pos (by omega), m3] at s3
                              rw [if_pos (by omega), m4] at s4
                              obtain ⟨g, rfl⟩ : ∃ g, p = some ⟨g, 0, none⟩ := by
                                rcases hpp with h | h
                                · omega
                                · exact h
                              have t0 := (rp g rfl (x * 5) (by omega)).trans (congrArg some m0)
                              have t1 := (rp g rfl (x * 5 + 1) (by omega)).trans (congrArg some m1)
                              have t2 := (rp g rfl (x * 5 + 2) (by omega)).trans (congrArg some m2)
                              have t3 := (rp g rfl (x * 5 + 3) (by omega)).trans (congrArg some m3)
                              have t4 := (rp g rfl (x * 5 + 4) (by omega)).trans (congrArg some m4)
                              have e1 : decide ((x : Int) < (mk : Int)) = true := decide_eq_true (by omega)
                              have e2 : decide (x < mk) = true := decide_eq_true (by omega)
                              have e3 : decide ((x : Int) ≥ (mk : Int)) = false := decide_eq_false (by omega)
                              have e4 : decide ((mk : Int) ≤ (x : Int)) = false := decide_eq_false (by omega)
                              have e5 : decide (mk ≤ x) = false := decide_eq_false (by omega)
                              have x2 : (x : Int) < (mk : Int) := by omega
                              have ne1 := neq_tkV (1000 + (k : Int)) (x : Int)
                              clear rp rq rz m0 m1 m2 m3 m4 hpp hqq
                              go_wp2
                              go_quiet (fail)
                              have HG7 := fun n => HG6.out.later HD.out (below_dr _ wr n)
                              clear HG6 s0 s1 s2 s3 s4 t0 t1 t2 t3 t4 cl cz ne1
                              go_wp2
                              exact ⟨⟨x + 1, rfl, hlt2, HG7 _⟩, hm2⟩
                            · obtain ⟨m0, m1, m2, m3, m4⟩ := tailT_at k mk x
                              rw [if_neg (by omega), m0] at s0
                              rw [if_neg (by omega), m1] at s1
                              rw [if_neg (by omega), m2] at s2
                              rw [if_neg (by omega), m3] at s3
                              rw [if_neg (by omega), m4] at s4
                              obtain ⟨df, hdf⟩ : ∃ df, x - mk = df := ⟨_, rfl⟩
                              rw [hdf] at s3
                              have esb : IntKind.i64.wrap ((x : Int) - (mk : Int)) = (df : Int) := by rw [IntKind.wrap_i64]; omega
                              have e1 : decide ((x : Int) < (mk : Int)) = false := decide_eq_false (by omega)
                              have e2 : decide (x < mk) = false := decide_eq_false (by omega)
                              have e3 : decide ((x : Int) ≥ (mk : Int)) = true := decide_eq_true (by omega)
                              have e4 : decide ((mk : Int) ≤ (x : Int)) = true := decide_eq_true (by omega)
                              have e5 : decide (mk ≤ x) = true := decide_eq_true (by omega)
                              have ne1 := neq_tkV (2000 + (k : Int)) (df : Int)
                              clear rp rq rz m0 m1 m2 m3 m4 hpp hqq hdf
                              go_wp2
                              go_quiet (fail)
                              have HG7 := fun n => HG6.out.later HD.out (below_dr _ wr n)
                              clear HG6 s0 s1 s2 s3 s4 cl cz ne1
                              go_wp2
                              exact ⟨⟨x + 1, rfl, hlt2, HG7 _⟩, hm2⟩
                          · have dl2 : decide ((x : Int) < (nk : Int)) = false := decide_eq_false (by omega)
                            have dl3 : decide (x < nk) = false := decide_eq_false (by omega)
                            clear rp rq
                            go_wp2
                            exact ⟨⟨k + 1, rfl, hlt, HG6.out⟩, hm⟩
                  case pos =>
                    have dl : decide ((k : Int) < 5) = true := decide_eq_true (by omega)
                    have hm := meas5 hlt
                    have k0 : (0 : Int) ≤ (k : Int) := by omega
                    have k1 : (k : Int) < 5 := by omega
                    have ek : IntKind.i64.wrap ((k : Int) + 1) = ((k + 1 : Nat) : Int) := by rw [IntKind.wrap_i64]; omega
                    have eT : IntKind.i64.wrap (2000 + (k : Int)) = 2000 + (k : Int) := by rw [IntKind.wrap_i64]; omega
                    obtain ⟨p, ck, hv, hpp⟩ := own_form' (hgr.fs.ls.own k (by omega))
                    have hMk9 : M k ≤ 16384 := by rw [HME.out k hlt]; exact HLN.out k
                    have cl : wr.cell? ⟨w1.heap.size + 1, k, none⟩ = some (.slice p (M k) ck) := by have h9 := a5_cell hgr.fs.l hlt; rw [hv] at h9; exact h9
                    have cz : wr.cell? ⟨mb, k, none⟩ = some (Z k) := a5_cell hgr.mb hlt
                    have fz : wr.frozen? ⟨mb, k, none⟩ = false := a5_frz hgr.mb k
                    have hg1 := hgr.first HD.out HMB.out hlt
                    rw [hv] at hg1
                    have HG1 : Hid (∃ Z N G, GR (⟨w1.heap.size + 3, w1.heap.size, w1.heap.size + 1, w1.heap.size + 1 + 1⟩ : Bl) mb w (fun j => .string ⟨(pick a b j).toArray⟩) V M F2 (k + 1) Z N G (wr.setCell ⟨mb, k, none⟩ (.slice p (M k) ck)) ∧ Dn M k N G ∧ N k = M k + 0 ∧ ∀ x, x < N k * 5 → G k x = mixT k (M k) x) := ⟨_, _, _, hg1, hdn.ext, by rw [ext_at]; rfl, fun x hx => by rw [ext_at] at hx; rw [ext_at, HI.out k hlt x hx]; unfold mixT; rw [if_pos hx]⟩
                    obtain ⟨mk, hmk⟩ : ∃ mk, M k = mk := ⟨_, rfl⟩
                    have HMK : Hid (M k = mk) := hmk
                    rw [hmk] at cl HG1 hMk9
                    clear hgr hdn hv hg1 hmk hpp
                    go_upto_region 30 with fail
                    generalize wr.setCell ⟨mb, k, none⟩ (.slice p mk ck) = wg at HG1 ⊢
                    clear cl cz fz
                    go_wp2
                    go_loopw [14] (fun v wr => ∃ (t : Nat) (Z : Nat → Value) (N : Nat → Nat) (G : Nat → Nat → Value), v = .int .i64 (t : Int) ∧ t ≤ 64 ∧ GR (⟨w1.heap.size + 3, w1.heap.size, w1.heap.size + 1, w1.heap.size + 1 + 1⟩ : Bl) mb w (fun j => .string ⟨(pick a b j).toArray⟩) V M F2 (k + 1) Z N G wr ∧ Dn M k N G ∧ N k = mk + t ∧ ∀ x, x < N k * 5 → G k x = mixT k mk x) (fun v _ => 64 - (intOf v).toNat)
                    case atStart =>
                      obtain ⟨Z, N, G, h1, h2, h3, h4⟩ := HG1.out
                      exact ⟨0, Z, N, G, rfl, by omega, h1, h2, h3, h4⟩
                    case round =>
                      clear HG1
                      obtain ⟨t, Z, N, G, rfl, ht, hgr, hdn, hN, hG⟩ := hrel
                      by_cases hlt2 : t < 64
                      · have dl2 : decide ((t : Int) < 64) = true := decide_eq_true (by omega)
                        have hm2 := meas5 hlt2
                        have et : IntKind.i64.wrap ((t : Int) + 1) = ((t + 1 : Nat) : Int) := by rw [IntKind.wrap_i64]; omega
                        obtain ⟨q, cq, hzv, _⟩ := own_form' (hgr.own k (by omega))
                        have cz : wr.cell? ⟨mb, k, none⟩ = some (.slice q (N k) cq) := by have h9 := a5_cell hgr.mb hlt; rw [hzv] at h9; exact h9
                        have hal : Below wr.heap.size wr (wr.alloc (.cells #[.int .i64 (2000 + (k : Int)), .string ⟨#[]⟩, .int .u64 0, .int .i64 (t : Int), .int .i64 0] 34)) := (Below.refl _ wr).alloc (Nat.le_refl _) _
                        have hg4 := hgr.later HD.out hal
                        have ho4 := hg4.own k (by omega)
                        rw [hzv] at ho4
                        have HG4 : Hid (GR (⟨w1.heap.size + 3, w1.heap.size, w1.heap.size + 1, w1.heap.size + 1 + 1⟩ : Bl) mb w (fun j => .string ⟨(pick a b j).toArray⟩) V M F2 (k + 1) Z N G (wr.alloc (.cells #[.int .i64 (2000 + (k : Int)), .string ⟨#[]⟩, .int .u64 0, .int .i64 (t : Int), .int .i64 0] 34)) ∧ Dn M k N G ∧ Z k = .slice q (N k) cq) := ⟨hg4, hdn, hzv⟩
                        have hbs := hg4.fs.bs
                        obtain ⟨nk, hnk⟩ : ∃ nk, N k = nk := ⟨_, rfl⟩
                        rw [hnk] at cz ho4 hN hG
                        have HNK : Hid (N k = nk) := hnk
                        have hx1 : nk + 1 ≤ maxLen := by unfold maxLen; omega
                        have hx2 : (nk + 1) * 48 ≤ 140737488355328 := by omega
                        have HO4 : Hid (Own (wr.alloc (.cells #[.int .i64 (2000 + (k : Int)), .string ⟨#[]⟩, .int .u64 0, .int .i64 (t : Int), .int .i64 0] 34)) (w1.heap.size + 3) 34 5 (.slice q nk cq) nk (G k)) := ho4
                        have HGM : Hid (nk = mk + t ∧ ∀ x, x < nk * 5 → G k x = mixT k mk x) := ⟨hN, hG⟩
                        have HBS : Hid (w1.heap.size + 3 ≤ (wr.alloc (.cells #[.int .i64 (2000 + (k : Int)), .string ⟨#[]⟩, .int .u64 0, .int .i64 (t : Int), .int .i64 0] 34)).heap.size) := hbs
                        clear hgr hdn hN hG hal hg4 ho4 hbs hnk hzv
                        go_upto_region 32 with (refine wpList_app_keep _ rfl (.tmp 115) (.tmp 120) 24 rfl (w1.heap.size + 3) 34 i0 _ 5 48 Tryd.underlying24 hi hz0 hz1 hz2 rfl (by decide) (.slice q nk cq) nk (cellsF (G k) (nk * 5)) rfl HO4.out ⟨wr.heap.size, 0, none⟩ 1 1 (by decide) (tlL k t) rfl rfl (cell_five_new wr _ _ _ _ _ _) (by simp [tlL, Value.oneCell']) hx1 hx2 HBS.out ?_; intro v5 w5 ho5 hak5; have hO5 := own_of_rowT ho5; obtain ⟨q5, c5, hv5, _⟩ := own_form' hO5; subst hv5; have hmb5 := hak5.keepB HG4.out.1.mb (by decide); have cz5 : w5.cell? ⟨mb, k, none⟩ = some (Z k) := a5_cell hmb5 hlt; have fz5 : w5.frozen? ⟨mb, k, none⟩ = false := a5_frz hmb5 k; have HA5 : Hid (Own w5 (w1.heap.size + 3) 34 5 (.slice q5 (nk + 1) c5) (nk + 1) (fun j => (cellsF (G k) (nk * 5) ++ tlL k t).getD j undef) ∧ AK (wr.alloc (.cells #[.int .i64 (2000 + (k : Int)), .string ⟨#[]⟩, .int .u64 0, .int .i64 (t : Int), .int .i64 0] 34)) 34 5 nk 1 (.slice q nk cq) (.slice q5 (nk + 1) c5) w5) := ⟨hO5, hak5⟩; clear ho5 hak5 hO5 hmb5)
                        have HFIN : Hid (∃ Z N G, GR (⟨w1.heap.size + 3, w1.heap.size, w1.heap.size + 1, w1.heap.size + 1 + 1⟩ : Bl) mb w (fun j => .string ⟨(pick a b j).toArray⟩) V M F2 (k + 1) Z N G (w5.setCell ⟨mb, k, none⟩ (.slice q5 (nk + 1) c5)) ∧ Dn M k N G ∧ N k = mk + (t + 1) ∧ ∀ x, x < N k * 5 → G k x = mixT k mk x) := by
                          have hz9 := HG4.out.2.2
                          have h9 := HG4.out.1.app HD.out HMB.out hlt (m := 1) (v' := .slice q5 (nk + 1) c5) (W' := w5) (by rw [HNK.out]; exact HA5.out.1) (by rw [hz9, HNK.out]; exact HA5.out.2)
                          refine ⟨_, _, _, h9, HG4.out.2.1.ext, by rw [ext_at, HNK.out]; have := HGM.out.1; omega, fun x hx => ?_⟩
                          rw [ext_at, HNK.out] at hx
                          rw [ext_at]
                          exact app_mix HGM.out.1 HGM.out.2 x hx
                        generalize w5.setCell ⟨mb, k, none⟩ (.slice q5 (nk + 1) c5) = w6 at HFIN ⊢
                        clear HG4 HO4 HGM HBS HA5 cz cz5 fz5 HNK
                        go_wp2
                        obtain ⟨Z', N', G', f1, f2, f3, f4⟩ := HFIN.out
                        exact ⟨⟨_, _, _, _, _, _, _, _, _, _, _, _, _, _, _, _, ⟨⟨t + 1, Z', N', G', rfl, hlt2, f1, f2, f3, f4⟩, rfl⟩⟩, hm2⟩
                      · have dl2 : decide ((t : Int) < 64) = false := decide_eq_false (by omega)
                        obtain rfl : t = 64 := by omega
                        have HP2 : Hid (GR (⟨w1.heap.size + 3, w1.heap.size, w1.heap.size + 1, w1.heap.size + 1 + 1⟩ : Bl) mb w (fun j => .string ⟨(pick a b j).toArray⟩) V M F2 (k + 1) Z N G wr ∧ Dn M (k + 1) N G) := ⟨hgr, hdn.next (by rw [HMK.out]; exact hN) (by rw [HMK.out]; exact hG)⟩
                        clear hgr hdn hN hG
                        go_wp2
                        exact ⟨⟨k + 1, Z, N, G, rfl, hlt, HP2.out⟩, hm⟩
              case pos =>
                have dl : decide ((k : Int) < 5) = true := decide_eq_true (by omega)
                have hm := meas5 hlt
                have k0 : (0 : Int) ≤ (k : Int) := by omega
                have k1 : (k : Int) < 5 := by omega
                have ek : IntKind.i64.wrap ((k : Int) + 1) = ((k + 1 : Nat) : Int) := by rw [IntKind.wrap_i64]; omega
                have eT : IntKind.i64.wrap (1000 + (k : Int)) = 1000 + (k : Int) := by rw [IntKind.wrap_i64]; omega
                obtain ⟨p, ck, hv, hpp⟩ := own_form' (hfs.ls.own k (by omega))
                have hMk9 : M k ≤ 16384 := by rw [HME.out k hlt]; exact HLN.out k
                have HV : Hid (V k = .slice p (M k) ck) := hv
                have HFS : Hid (FS (⟨w1.heap.size + 3, w1.heap.size, w1.heap.size + 1, w1.heap.size + 1 + 1⟩ : Bl) w (fun j => .string ⟨(pick a b j).toArray⟩) V M F2 wr ∧ wr.heap[mb]? = some (.cells (a5 fun _ => .slice none 0 0) 25 (0, 0)) ∧ Mk ta tb' k 0 M F2) := ⟨hfs, hmk, hMk⟩
                clear hfs hmk hMk hv
                obtain ⟨mk, hmk⟩ : ∃ mk, M k = mk := ⟨_, rfl⟩
                rw [hmk] at hpp hMk9
                have HMK : Hid (M k = mk) := hmk
                clear hmk
                have HCL : Hid (∀ (F : Nat → Nat → Value) (wr : World), FS (⟨w1.heap.size + 3, w1.heap.size, w1.heap.size + 1, w1.heap.size + 1 + 1⟩ : Bl) w (fun j => .string ⟨(pick a b j).toArray⟩) V M F wr → wr.cell? ⟨w1.heap.size + 1, k, none⟩ = some (.slice p mk ck)) := fun F wr h => by have h9 := a5_cell h.l hlt; rw [HV.out, HMK.out] at h9; exact h9
                go_wp2
                go_loopw [12] (fun v wr => ∃ (i : Nat) (F : Nat → Nat → Value), v = .int .i64 (i : Int) ∧ i ≤ mk ∧ FS (⟨w1.heap.size + 3, w1.heap.size, w1.heap.size + 1, w1.heap.size + 1 + 1⟩ : Bl) w (fun j => .string ⟨(pick a b j).toArray⟩) V M F wr ∧ wr.heap[mb]? = some (.cells (a5 fun _ => .slice none 0 0) 25 (0, 0)) ∧ Mk ta tb' k i M F) (fun v _ => mk - (intOf v).toNat)
                case atStart => exact ⟨0, F2, rfl, Nat.zero_le _, HFS.out⟩
                case round =>
                  clear HFS
                  obtain ⟨i, F3, rfl, hi, hfs, hmbk, hMk⟩ := hrel
                  have cl := HCL.out F3 wr hfs
                  by_cases hlt2 : i < mk
                  · have dl2 : decide ((i : Int) < (mk : Int)) = true := decide_eq_true (by omega)
                    have dl3 : decide (i < mk) = true := decide_eq_true (by omega)
                    have hm2 := meas5 hlt2
                    have i0 : (0 : Int) ≤ (i : Int) := by omega
                    have i1 : (i : Int) < (mk : Int) := by omega
                    have ei : IntKind.i64.wrap ((i : Int) + 1) = ((i + 1 : Nat) : Int) := by rw [IntKind.wrap_i64]; omega
                    obtain ⟨g, rfl⟩ : ∃ g, p = some ⟨g, 0, none⟩ := by
                      rcases hpp with h | h
                      · omega
                      · exact h
                    have hv : V k = .slice (some ⟨g, 0, none⟩) (M k) ck := HV.out
                    have hO := hfs.ls.own k (by omega)
                    rw [hv] at hO
                    have HTH : Hid (wr.there g (i * 5) 5) := hO.there (by rw [HMK.out]; omega)
                    have HST : Hid (∃ F, FS (⟨w1.heap.size + 3, w1.heap.size, w1.heap.size + 1, w1.heap.size + 1 + 1⟩ : Bl) w (fun j => .string ⟨(pick a b j).toArray⟩) V M F (wr.setCells g (i * 5) [.int .i64 (1000 + (k : Int)), .string ⟨#[]⟩, .int .u64 0, .int .i64 (i : Int), .int .i64 0]) ∧ (wr.setCells g (i * 5) [.int .i64 (1000 + (k : Int)), .string ⟨#[]⟩, .int .u64 0, .int .i64 (i : Int), .int .i64 0]).heap[mb]? = some (.cells (a5 fun _ => .slice none 0 0) 25 (0, 0)) ∧ Mk ta tb' k (i + 1) M F) := ⟨_, hfs.mark HD.out (by omega) hv (i * 5) (mkL k i), hfs.mbk (by omega) hv hmbk (i * 5) (mkL k i), hMk.step hlt⟩
                    clear hfs hmbk hMk hO hv
                    go_wp2_with (refine store_tk rfl (.tmp 98) (.tmp 97) rfl g (i * 5) (1000 + (k : Int)) (i : Int) rfl rfl HTH ?_; generalize wr.setCells g (i * 5) [.int .i64 (1000 + (k : Int)), .string ⟨#[]⟩, .int .u64 0, .int .i64 (i : Int), .int .i64 0] = w4 at HST ⊢)
                    obtain ⟨F', h1, h2, h3⟩ := HST.out
                    exact ⟨⟨_, _, _, _, _, _, _, _, _, _, _, _, _, _, _, _, _, _, ⟨⟨i + 1, F', rfl, hlt2, h1, h2, h3⟩, rfl⟩⟩, hm2⟩
                  · have dl2 : decide ((i : Int) < (mk : Int)) = false := decide_eq_false (by omega)
                    have dl3 : decide (i < mk) = false := decide_eq_false (by omega)
                    obtain rfl : i = mk := by omega
                    have HP2 : Hid (FS (⟨w1.heap.size + 3, w1.heap.size, w1.heap.size + 1, w1.heap.size + 1 + 1⟩ : Bl) w (fun j => .string ⟨(pick a b j).toArray⟩) V M F3 wr ∧ wr.heap[mb]? = some (.cells (a5 fun _ => .slice none 0 0) 25 (0, 0)) ∧ Mk ta tb' (k + 1) 0 M F3) := ⟨hfs, hmbk, by rw [← HMK.out] at hMk; exact hMk.next⟩
                    clear hfs hmbk hMk
                    go_wp2
                    exact ⟨⟨k + 1, F3, rfl, hlt, HP2.out⟩, hm⟩
          case pos =>
            have hm := meas5 hlt
            have HFS : Hid (FS (⟨w1.heap.size + 3, w1.heap.size, w1.heap.size + 1, w1.heap.size + 1 + 1⟩ : Bl) w (fun j => .string ⟨(pick a b j).toArray⟩) V M F wr) := hfs
            have RW : ∀ W', Below wr.heap.size wr W' → Hid (FS (⟨w1.heap.size + 3, w1.heap.size, w1.heap.size + 1, w1.heap.size + 1 + 1⟩ : Bl) w (fun j => .string ⟨(pick a b j).toArray⟩) V M F W') := fun W' hb => hfs.later HD.out hb
            clear hfs hi5
            rcases (by omega : i = 0 ∨ i = 1 ∨ i = 2 ∨ i = 3 ∨ i = 4) with rfl | rfl | rfl | rfl | rfl
            · have SW : ∀ W, Below wr.heap.size wr W → ((W.cell? ⟨w1.heap.size + 1, 0, none⟩ = some (V 0) ∧ W.cell? ⟨w1.heap.size + 1 + 1, 0, none⟩ = some (V 5)) ∧ W.cell? ⟨w1.heap.size + 1 + 1, 0, none⟩ = some (V 5)) := fun W hb => ⟨⟨a5_cell (RW W hb).out.l (by omega : 0 < 5), a5_cell (f := fun j => V (5 + j)) (RW W hb).out.u (by omega : 0 < 5)⟩, a5_cell (f := fun j => V (5 + j)) (RW W hb).out.u (by omega : 0 < 5)⟩
              have HC1 : Hid (∀ W, Below wr.heap.size wr W → Calls Tryd.prog 9 #[V 0, V 5] W fun e w9 => e = .returned (.bool true) ∧ Below wr.heap.size wr w9 ∧ ((fun W => (W.cell? ⟨w1.heap.size + 1, 0, none⟩ = some (V 0) ∧ W.cell? ⟨w1.heap.size + 1 + 1, 0, none⟩ = some (V 5)) ∧ W.cell? ⟨w1.heap.size + 1 + 1, 0, none⟩ = some (V 5)) w9)) := fun W hb => (row_same (HLN.out 0) ((RW W hb).out.ls.own 0 (by omega)) ((RW W hb).out.ls.own 5 (by omega)) (HS2.out.2 0 (by omega)).1 (HS2.out.2 0 (by omega)).2).mono fun e w9 h9 => ⟨h9.1, hb.trans (h9.2.mono hb.size), SW _ (hb.trans (h9.2.mono hb.size))⟩
              have HC2 : Hid (∀ W, Below wr.heap.size wr W → Calls Tryd.prog 9 #[V 5, V 5] W fun e w9 => e = .returned (.bool true) ∧ Below wr.heap.size wr w9 ∧ ((fun W => (W.cell? ⟨w1.heap.size + 1, 0, none⟩ = some (V 0) ∧ W.cell? ⟨w1.heap.size + 1 + 1, 0, none⟩ = some (V 5)) ∧ W.cell? ⟨w1.heap.size + 1 + 1, 0, none⟩ = some (V 5)) w9)) := fun W hb => (row_same (HLN.out 0) ((RW W hb).out.ls.own 5 (by omega)) ((RW W hb).out.ls.own 5 (by omega)) (HS2.out.2 0 (by omega)).2 (HS2.out.2 0 (by omega)).2).mono fun e w9 h9 => ⟨h9.1, hb.trans (h9.2.mono hb.size), SW _ (hb.trans (h9.2.mono hb.size))⟩
              have hbt : bits BinOp.and IntKind.i64 0 1 = 0 := by decide
              have hS := SW wr.drew (Below.refl _ wr).drew
              have HRW : Hid (∀ W', Below wr.heap.size wr W' → Hid (FS (⟨w1.heap.size + 3, w1.heap.size, w1.heap.size + 1, w1.heap.size + 1 + 1⟩ : Bl) w (fun j => .string ⟨(pick a b j).toArray⟩) V M F W')) := RW
              clear SW RW
              go_wp2
              go_region_held3 (fun W => (W.cell? ⟨w1.heap.size + 1, 0, none⟩ = some (V 0) ∧ W.cell? ⟨w1.heap.size + 1 + 1, 0, none⟩ = some (V 5)) ∧ W.cell? ⟨w1.heap.size + 1 + 1, 0, none⟩ = some (V 5)) (first | exact hS | exact s7 | exact s8 | go_keep) (first
                | (go_at_call 9; (with_reducible refine (HC1.out _ (Below.refl _ wr).drew).mono ?_); rintro e9 w9 ⟨rfl, hb9, s7⟩)
                | (go_at_call 9; (with_reducible refine (HC2.out _ hb9).mono ?_); rintro e8 w8 ⟨rfl, hb8, s8⟩))
              all_goals
                have HZ := HRW.out _ hb8
                clear HC1 HC2 HRW hb8 hb9 s7 s8 hS
                go_wp2
                exact ⟨⟨_, _, _, _, _, _, _, _, _, _, _, _, _, _, _, _, _, _, _, _, _, _, _, _, _, ⟨⟨1, rfl, by omega, HZ.out⟩, rfl⟩⟩, hm⟩
            · have SW : ∀ W, Below wr.heap.size wr W → ((W.cell? ⟨w1.heap.size + 1, 1, none⟩ = some (V 1) ∧ W.cell? ⟨w1.heap.size + 1 + 1, 1, none⟩ = some (V 6)) ∧ W.cell? ⟨w1.heap.size + 1 + 1, 1, none⟩ = some (V 6)) := fun W hb => ⟨⟨a5_cell (RW W hb).out.l (by omega : 1 < 5), a5_cell (f := fun j => V (5 + j)) (RW W hb).out.u (by omega : 1 < 5)⟩, a5_cell (f := fun j => V (5 + j)) (RW W hb).out.u (by omega : 1 < 5)⟩
              have HC1 : Hid (∀ W, Below wr.heap.size wr W → Calls Tryd.prog 9 #[V 1, V 6] W fun e w9 => e = .returned (.bool true) ∧ Below wr.heap.size wr w9 ∧ ((fun W => (W.cell? ⟨w1.heap.size + 1, 1, none⟩ = some (V 1) ∧ W.cell? ⟨w1.heap.size + 1 + 1, 1, none⟩ = some (V 6)) ∧ W.cell? ⟨w1.heap.size + 1 + 1, 1, none⟩ = some (V 6)) w9)) := fun W hb => (row_same (HLN.out 1) ((RW W hb).out.ls.own 1 (by omega)) ((RW W hb).out.ls.own 6 (by omega)) (HS2.out.2 1 (by omega)).1 (HS2.out.2 1 (by omega)).2).mono fun e w9 h9 => ⟨h9.1, hb.trans (h9.2.mono hb.size), SW _ (hb.trans (h9.2.mono hb.size))⟩
              have HC2 : Hid (∀ W, Below wr.heap.size wr W → Calls Tryd.prog 9 #[V 6, V 6] W fun e w9 => e = .returned (.bool true) ∧ Below wr.heap.size wr w9 ∧ ((fun W => (W.cell? ⟨w1.heap.size + 1, 1, none⟩ = some (V 1) ∧ W.cell? ⟨w1.heap.size + 1 + 1, 1, none⟩ = some (V 6)) ∧ W.cell? ⟨w1.heap.size + 1 + 1, 1, none⟩ = some (V 6)) w9)) := fun W hb => (row_same (HLN.out 1) ((RW W hb).out.ls.own 6 (by omega)) ((RW W hb).out.ls.own 6 (by omega)) (HS2.out.2 1 (by omega)).2 (HS2.out.2 1 (by omega)).2).mono fun e w9 h9 => ⟨h9.1, hb.trans (h9.2.mono hb.size), SW _ (hb.trans (h9.2.mono hb.size))⟩
              have hbt : bits BinOp.and IntKind.i64 1 1 = 1 := by decide
              have hS := SW wr.drew (Below.refl _ wr).drew
              have HRW : Hid (∀ W', Below wr.heap.size wr W' → Hid (FS (⟨w1.heap.size + 3, w1.heap.size, w1.heap.size + 1, w1.heap.size + 1 + 1⟩ : Bl) w (fun j => .string ⟨(pick a b j).toArray⟩) V M F W')) := RW
              clear SW RW
              go_wp2
              go_region_held3 (fun W => (W.cell? ⟨w1.heap.size + 1, 1, none⟩ = some (V 1) ∧ W.cell? ⟨w1.heap.size + 1 + 1, 1, none⟩ = some (V 6)) ∧ W.cell? ⟨w1.heap.size + 1 + 1, 1, none⟩ = some (V 6)) (first | exact hS | exact s7 | exact s8 | go_keep) (first
                | (go_at_call 9; (with_reducible refine (HC1.out _ (Below.refl _ wr).drew).mono ?_); rintro e9 w9 ⟨rfl, hb9, s7⟩)
                | (go_at_call 9; (with_reducible refine (HC2.out _ hb9).mono ?_); rintro e8 w8 ⟨rfl, hb8, s8⟩))
              all_goals
                have HZ := HRW.out _ hb8
                clear HC1 HC2 HRW hb8 hb9 s7 s8 hS
                go_wp2
                exact ⟨⟨_, _, _, _, _, _, _, _, _, _, _, _, _, _, _, _, _, _, _, _, _, _, _, _, _, ⟨⟨2, rfl, by omega, HZ.out⟩, rfl⟩⟩, hm⟩
            · have SW : ∀ W, Below wr.heap.size wr W → ((W.cell? ⟨w1.heap.size + 1, 2, none⟩ = some (V 2) ∧ W.cell? ⟨w1.heap.size + 1 + 1, 2, none⟩ = some (V 7)) ∧ W.cell? ⟨w1.heap.size + 1 + 1, 0, none⟩ = some (V 5)) := fun W hb => ⟨⟨a5_cell (RW W hb).out.l (by omega : 2 < 5), a5_cell (f := fun j => V (5 + j)) (RW W hb).out.u (by omega : 2 < 5)⟩, a5_cell (f := fun j => V (5 + j)) (RW W hb).out.u (by omega : 0 < 5)⟩
              have HC1 : Hid (∀ W, Below wr.heap.size wr W → Calls Tryd.prog 9 #[V 2, V 7] W fun e w9 => e = .returned (.bool true) ∧ Below wr.heap.size wr w9 ∧ ((fun W => (W.cell? ⟨w1.heap.size + 1, 2, none⟩ = some (V 2) ∧ W.cell? ⟨w1.heap.size + 1 + 1, 2, none⟩ = some (V 7)) ∧ W.cell? ⟨w1.heap.size + 1 + 1, 0, none⟩ = some (V 5)) w9)) := fun W hb => (row_same (HLN.out 2) ((RW W hb).out.ls.own 2 (by omega)) ((RW W hb).out.ls.own 7 (by omega)) (HS2.out.2 2 (by omega)).1 (HS2.out.2 2 (by omega)).2).mono fun e w9 h9 => ⟨h9.1, hb.trans (h9.2.mono hb.size), SW _ (hb.trans (h9.2.mono hb.size))⟩
              have HC2 : Hid (∀ W, Below wr.heap.size wr W → Calls Tryd.prog 9 #[V 7, V 5] W fun e w9 => e = .returned (.bool true) ∧ Below wr.heap.size wr w9 ∧ ((fun W => (W.cell? ⟨w1.heap.size + 1, 2, none⟩ = some (V 2) ∧ W.cell? ⟨w1.heap.size + 1 + 1, 2, none⟩ = some (V 7)) ∧ W.cell? ⟨w1.heap.size + 1 + 1, 0, none⟩ = some (V 5)) w9)) := fun W hb => (row_same (HLN.out 2) ((RW W hb).out.ls.own 7 (by omega)) ((RW W hb).out.ls.own 5 (by omega)) (HS2.out.2 2 (by omega)).2 (HS2.out.2 0 (by omega)).2).mono fun e w9 h9 => ⟨h9.1, hb.trans (h9.2.mono hb.size), SW _ (hb.trans (h9.2.mono hb.size))⟩
              have hbt : bits BinOp.and IntKind.i64 2 1 = 0 := by decide
              have hS := SW wr.drew (Below.refl _ wr).drew
              have HRW : Hid (∀ W', Below wr.heap.size wr W' → Hid (FS (⟨w1.heap.size + 3, w1.heap.size, w1.heap.size + 1, w1.heap.size + 1 + 1⟩ : Bl) w (fun j => .string ⟨(pick a b j).toArray⟩) V M F W')) := RW
              clear SW RW
              go_wp2
              go_region_held3 (fun W => (W.cell? ⟨w1.heap.size + 1, 2, none⟩ = some (V 2) ∧ W.cell? ⟨w1.heap.size + 1 + 1, 2, none⟩ = some (V 7)) ∧ W.cell? ⟨w1.heap.size + 1 + 1, 0, none⟩ = some (V 5)) (first | exact hS | exact s7 | exact s8 | go_keep) (first
                | (go_at_call 9; (with_reducible refine (HC1.out _ (Below.refl _ wr).drew).mono ?_); rintro e9 w9 ⟨rfl, hb9, s7⟩)
                | (go_at_call 9; (with_reducible refine (HC2.out _ hb9).mono ?_); rintro e8 w8 ⟨rfl, hb8, s8⟩))
              all_goals
                have HZ := HRW.out _ hb8
                clear HC1 HC2 HRW hb8 hb9 s7 s8 hS
                go_wp2
                exact ⟨⟨_, _, _, _, _, _, _, _, _, _, _, _, _, _, _, _, _, _, _, _, _, _, _, _, _, ⟨⟨3, rfl, by omega, HZ.out⟩, rfl⟩⟩, hm⟩
            · have SW : ∀ W, Below wr.heap.size wr W → ((W.cell? ⟨w1.heap.size + 1, 3, none⟩ = some (V 3) ∧ W.cell? ⟨w1.heap.size + 1 + 1, 3, none⟩ = some (V 8)) ∧ W.cell? ⟨w1.heap.size + 1 + 1, 1, none⟩ = some (V 6)) := fun W hb => ⟨⟨a5_cell (RW W hb).out.l (by omega : 3 < 5), a5_cell (f := fun j => V (5 + j)) (RW W hb).out.u (by omega : 3 < 5)⟩, a5_cell (f := fun j => V (5 + j)) (RW W hb).out.u (by omega : 1 < 5)⟩
              have HC1 : Hid (∀ W, Below wr.heap.size wr W → Calls Tryd.prog 9 #[V 3, V 8] W fun e w9 => e = .returned (.bool true) ∧ Below wr.heap.size wr w9 ∧ ((fun W => (W.cell? ⟨w1.heap.size + 1, 3, none⟩ = some (V 3) ∧ W.cell? ⟨w1.heap.size + 1 + 1, 3, none⟩ = some (V 8)) ∧ W.cell? ⟨w1.heap.size + 1 + 1, 1, none⟩ = some (V 6)) w9)) := fun W hb => (row_same (HLN.out 3) ((RW W hb).out.ls.own 3 (by omega)) ((RW W hb).out.ls.own 8 (by omega)) (HS2.out.2 3 (by omega)).1 (HS2.out.2 3 (by omega)).2).mono fun e w9 h9 => ⟨h9.1, hb.trans (h9.2.mono hb.size), SW _ (hb.trans (h9.2.mono hb.size))⟩
              have HC2 : Hid (∀ W, Below wr.heap.size wr W → Calls Tryd.prog 9 #[V 8, V 6] W fun e w9 => e = .returned (.bool true) ∧ Below wr.heap.size wr w9 ∧ ((fun W => (W.cell? ⟨w1.heap.size + 1, 3, none⟩ = some (V 3) ∧ W.cell? ⟨w1.heap.size + 1 + 1, 3, none⟩ = some (V 8)) ∧ W.cell? ⟨w1.heap.size + 1 + 1, 1, none⟩ = some (V 6)) w9)) := fun W hb => (row_same (HLN.out 3) ((RW W hb).out.ls.own 8 (by omega)) ((RW W hb).out.ls.own 6 (by omega)) (HS2.out.2 3 (by omega)).2 (HS2.out.2 1 (by omega)).2).mono fun e w9 h9 => ⟨h9.1, hb.trans (h9.2.mono hb.size), SW _ (hb.trans (h9.2.mono hb.size))⟩
              have hbt : bits BinOp.and IntKind.i64 3 1 = 1 := by decide
              have hS := SW wr.drew (Below.refl _ wr).drew
              have HRW : Hid (∀ W', Below wr.heap.size wr W' → Hid (FS (⟨w1.heap.size + 3, w1.heap.size, w1.heap.size + 1, w1.heap.size + 1 + 1⟩ : Bl) w (fun j => .string ⟨(pick a b j).toArray⟩) V M F W')) := RW
              clear SW RW
              go_wp2
              go_region_held3 (fun W => (W.cell? ⟨w1.heap.size + 1, 3, none⟩ = some (V 3) ∧ W.cell? ⟨w1.heap.size + 1 + 1, 3, none⟩ = some (V 8)) ∧ W.cell? ⟨w1.heap.size + 1 + 1, 1, none⟩ = some (V 6)) (first | exact hS | exact s7 | exact s8 | go_keep) (first
                | (go_at_call 9; (with_reducible refine (HC1.out _ (Below.refl _ wr).drew).mono ?_); rintro e9 w9 ⟨rfl, hb9, s7⟩)
                | (go_at_call 9; (with_reducible refine (HC2.out _ hb9).mono ?_); rintro e8 w8 ⟨rfl, hb8, s8⟩))
              all_goals
                have HZ := HRW.out _ hb8
                clear HC1 HC2 HRW hb8 hb9 s7 s8 hS
                go_wp2
                exact ⟨⟨_, _, _, _, _, _, _, _, _, _, _, _, _, _, _, _, _, _, _, _, _, _, _, _, _, ⟨⟨4, rfl, by omega, HZ.out⟩, rfl⟩⟩, hm⟩
            · have SW : ∀ W, Below wr.heap.size wr W → ((W.cell? ⟨w1.heap.size + 1, 4, none⟩ = some (V 4) ∧ W.cell? ⟨w1.heap.size + 1 + 1, 4, none⟩ = some (V 9)) ∧ W.cell? ⟨w1.heap.size + 1 + 1, 0, none⟩ = some (V 5)) := fun W hb => ⟨⟨a5_cell (RW W hb).out.l (by omega : 4 < 5), a5_cell (f := fun j => V (5 + j)) (RW W hb).out.u (by omega : 4 < 5)⟩, a5_cell (f := fun j => V (5 + j)) (RW W hb).out.u (by omega : 0 < 5)⟩
              have HC1 : Hid (∀ W, Below wr.heap.size wr W → Calls Tryd.prog 9 #[V 4, V 9] W fun e w9 => e = .returned (.bool true) ∧ Below wr.heap.size wr w9 ∧ ((fun W => (W.cell? ⟨w1.heap.size + 1, 4, none⟩ = some (V 4) ∧ W.cell? ⟨w1.heap.size + 1 + 1, 4, none⟩ = some (V 9)) ∧ W.cell? ⟨w1.heap.size + 1 + 1, 0, none⟩ = some (V 5)) w9)) := fun W hb => (row_same (HLN.out 4) ((RW W hb).out.ls.own 4 (by omega)) ((RW W hb).out.ls.own 9 (by omega)) (HS2.out.2 4 (by omega)).1 (HS2.out.2 4 (by omega)).2).mono fun e w9 h9 => ⟨h9.1, hb.trans (h9.2.mono hb.size), SW _ (hb.trans (h9.2.mono hb.size))⟩
              have HC2 : Hid (∀ W, Below wr.heap.size wr W → Calls Tryd.prog 9 #[V 9, V 5] W fun e w9 => e = .returned (.bool true) ∧ Below wr.heap.size wr w9 ∧ ((fun W => (W.cell? ⟨w1.heap.size + 1, 4, none⟩ = some (V 4) ∧ W.cell? ⟨w1.heap.size + 1 + 1, 4, none⟩ = some (V 9)) ∧ W.cell? ⟨w1.heap.size + 1 + 1, 0, none⟩ = some (V 5)) w9)) := fun W hb => (row_same (HLN.out 4) ((RW W hb).out.ls.own 9 (by omega)) ((RW W hb).out.ls.own 5 (by omega)) (HS2.out.2 4 (by omega)).2 (HS2.out.2 0 (by omega)).2).mono fun e w9 h9 => ⟨h9.1, hb.trans (h9.2.mono hb.size), SW _ (hb.trans (h9.2.mono hb.size))⟩
              have hbt : bits BinOp.and IntKind.i64 4 1 = 0 := by decide
              have hS := SW wr.drew (Below.refl _ wr).drew
              have HRW : Hid (∀ W', Below wr.heap.size wr W' → Hid (FS (⟨w1.heap.size + 3, w1.heap.size, w1.heap.size + 1, w1.heap.size + 1 + 1⟩ : Bl) w (fun j => .string ⟨(pick a b j).toArray⟩) V M F W')) := RW
              clear SW RW
              go_wp2
              go_region_held3 (fun W => (W.cell? ⟨w1.heap.size + 1, 4, none⟩ = some (V 4) ∧ W.cell? ⟨w1.heap.size + 1 + 1, 4, none⟩ = some (V 9)) ∧ W.cell? ⟨w1.heap.size + 1 + 1, 0, none⟩ = some (V 5)) (first | exact hS | exact s7 | exact s8 | go_keep) (first
                | (go_at_call 9; (with_reducible refine (HC1.out _ (Below.refl _ wr).drew).mono ?_); rintro e9 w9 ⟨rfl, hb9, s7⟩)
                | (go_at_call 9; (with_reducible refine (HC2.out _ hb9).mono ?_); rintro e8 w8 ⟨rfl, hb8, s8⟩))
              all_goals
                have HZ := HRW.out _ hb8
                clear HC1 HC2 HRW hb8 hb9 s7 s8 hS
                go_wp2
                exact ⟨⟨_, _, _, _, _, _, _, _, _, _, _, _, _, _, _, _, _, _, _, _, _, _, _, _, _, ⟨⟨5, rfl, by omega, HZ.out⟩, rfl⟩⟩, hm⟩
      case pos =>
        have dl : decide ((i : Int) < 5) = true := decide_eq_true (by omega)
        have hm := meas5 hlt
        have i0 : (0 : Int) ≤ (i : Int) := by omega
        have i1 : (i : Int) < 5 := by omega
        have ei : IntKind.i64.wrap ((i : Int) + 1) = ((i + 1 : Nat) : Int) := by rw [IntKind.wrap_i64]; omega
        have ct : wr.cell? ⟨w1.heap.size, i, none⟩ = some (.string ⟨(pick a b i).toArray⟩) := a5_cell hfs.t hlt
        have HSx : Hid (Calls Tryd.prog 7 #[.string ⟨(pick a b i).toArray⟩] wr fun e w'' => ∃ p c ev, e = .returned (.tuple #[.slice p (pick ta tb' i).length c, ev]) ∧ Own w'' wr.heap.size 34 5 (.slice p (pick ta tb' i).length c) (pick ta tb' i).length (TF (pick ta tb' i)) ∧ Below wr.heap.size wr w'') := by
          have h9 := HSC.out (pick a b i) wr (by unfold pick; split; exact .inl rfl; exact .inr rfl) hfs.be
          rw [HTK.out] at h9
          exact h9
        have HFS : Hid (FS (⟨w1.heap.size + 3, w1.heap.size, w1.heap.size + 1, w1.heap.size + 1 + 1⟩ : Bl) w (fun j => .string ⟨(pick a b j).toArray⟩) V M F wr ∧ Fil ta tb' i M F) := ⟨hfs, hfil⟩
        obtain ⟨pl, hpl⟩ : ∃ pl, pick ta tb' i = pl := ⟨_, rfl⟩
        have HPL : Hid (pick ta tb' i = pl) := hpl
        have hpn : pl.length ≤ 16384 := by rw [← hpl]; exact HLN.out i
        rw [hpl] at HSx
        clear hfs hfil hpl
        go_upto_region 12 with (go_at_call 7; (with_reducible refine (HSx.out).mono ?_); rintro e w2 ⟨p, c, ev, rfl, ho, hb2⟩; have k1 := HFS.out.1.later HD.out hb2; have c1 : w2.cell? ⟨w1.heap.size + 1, i, none⟩ = some (V i) := a5_cell k1.l hlt; have z1 : w2.frozen? ⟨w1.heap.size + 1, i, none⟩ = false := a5_frz k1.l i; have HO2 : Hid (Own w2 wr.heap.size 34 5 (.slice p pl.length c) pl.length (TF pl) ∧ Below wr.heap.size wr w2) := ⟨ho, hb2⟩; clear k1 ho hb2)
        obtain ⟨w3, hw3⟩ : ∃ w3, w2.setCell ⟨w1.heap.size + 1, i, none⟩ (.slice p pl.length c) = w3 := ⟨_, rfl⟩
        have hf3 := HFS.out.1.fillL HD.out HO2.out.2 HO2.out.1 hlt
        rw [show w2.setCell ⟨(⟨w1.heap.size + 3, w1.heap.size, w1.heap.size + 1, w1.heap.size + 1 + 1⟩ : Bl).lb, i, none⟩ (.slice p pl.length c) = w3 from hw3] at hf3
        rw [hw3]
        have c3 : w3.cell? ⟨w1.heap.size + 1, i, none⟩ = some (.slice p pl.length c) := by have h9 := a5_cell hf3.l hlt; rw [ext_at] at h9; exact h9
        have HCP : Hid (Calls Tryd.prog 8 #[.slice p pl.length c] w3 fun e w' => ∃ g, e = .returned (.slice (some ⟨g, 0, none⟩) pl.length pl.length) ∧ Own w' w3.heap.size 34 5 (.slice (some ⟨g, 0, none⟩) pl.length pl.length) pl.length (TF pl) ∧ Below w3.heap.size w3 w') := by
          have h9 := hf3.ls.own i (by omega)
          rw [ext_at, ext_at, ext_at] at h9
          exact copyTokens_any p pl.length c (TF pl) (by omega) w3 (TkIn.of_own h9) (tf_sh pl)
        have HF3 : Hid (FS (⟨w1.heap.size + 3, w1.heap.size, w1.heap.size + 1, w1.heap.size + 1 + 1⟩ : Bl) w (fun j => .string ⟨(pick a b j).toArray⟩) (ext V i (.slice p pl.length c)) (ext M i pl.length) (ext F i (TF pl)) w3) := hf3
        clear hf3 hw3 HSx HO2 c1 z1
        go_upto_region 10 with (go_at_call 8; (with_reducible refine (HCP.out).mono ?_); rintro e w4 ⟨gu, rfl, ho, hb4⟩; have k1 := HF3.out.later HD.out hb4; have c4 : w4.cell? ⟨w1.heap.size + 1 + 1, i, none⟩ = some (ext V i (.slice p pl.length c) (5 + i)) := a5_cell (f := fun j => ext V i (.slice p pl.length c) (5 + j)) k1.u hlt; have z4 : w4.frozen? ⟨w1.heap.size + 1 + 1, i, none⟩ = false := a5_frz k1.u i; have HO4 : Hid (Own w4 w3.heap.size 34 5 (.slice (some ⟨gu, 0, none⟩) pl.length pl.length) pl.length (TF pl) ∧ Below w3.heap.size w3 w4) := ⟨ho, hb4⟩; clear k1 ho hb4)
        obtain ⟨w5, hw5⟩ : ∃ w5, w4.setCell ⟨w1.heap.size + 1 + 1, i, none⟩ (.slice (some ⟨gu, 0, none⟩) pl.length pl.length) = w5 := ⟨_, rfl⟩
        have hf5 := HF3.out.fillU HD.out HO4.out.2 HO4.out.1 hlt
        rw [show w4.setCell ⟨(⟨w1.heap.size + 3, w1.heap.size, w1.heap.size + 1, w1.heap.size + 1 + 1⟩ : Bl).ub, i, none⟩ (.slice (some ⟨gu, 0, none⟩) pl.length pl.length) = w5 from hw5] at hf5
        rw [hw5]
        have hfil5 := HFS.out.2.next hlt
        rw [HPL.out] at hfil5
        have HF5 : Hid (FS (⟨w1.heap.size + 3, w1.heap.size, w1.heap.size + 1, w1.heap.size + 1 + 1⟩ : Bl) w (fun j => .string ⟨(pick a b j).toArray⟩) (ext (ext V i (.slice p pl.length c)) (5 + i) (.slice (some ⟨gu, 0, none⟩) pl.length pl.length)) (ext (ext M i pl.length) (5 + i) pl.length) (ext (ext F i (TF pl)) (5 + i) (TF pl)) w5 ∧ Fil ta tb' (i + 1) (ext (ext M i pl.length) (5 + i) pl.length) (ext (ext F i (TF pl)) (5 + i) (TF pl))) := ⟨hf5, hfil5⟩
        clear hf5 hfil5 hw5 HF3 HFS HO4 c4 z4 c3 HCP
        go_wp2
        exact ⟨⟨i + 1, _, _, _, rfl, hlt, HF5.out.1, HF5.out.2⟩, hm⟩
end Go.Proofs.YtabmikdekkoiaaaDoor
