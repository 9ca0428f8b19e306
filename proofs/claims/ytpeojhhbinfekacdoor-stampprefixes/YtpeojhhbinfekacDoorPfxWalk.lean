import Derived.Test.YtpeojhhbinfekacDoorEqEv
import Derived.ChangeOld
namespace Go.Proofs.YtpeojhhbinfekacDoor
open Go.ChangeShapes Go.WideShapes Go.ChangeAt Go.RowKit

theorem packE (e : Ev) (h : e.In) (w : World) : Calls Tryd.prog 6 #[.agg #[.int .u64 e.t, .int .i64 e.s, .int .u64 e.q, .int .i64 e.d, .int .i64 e.k, .int .i64 e.v]] w fun r w' => ∃ v', r = .returned v' ∧ LiesAt w' v' e.bytes ∧ Below w.heap.size w w' := by
  refine (pack_any w.heap.size e.t e.q e.s e.d e.k e.v h.t h.q h.s h.d h.k h.v w (Nat.le_refl _)).mono ?_
  rintro r w' ⟨v', rfl, o, hb, _⟩
  exact ⟨v', rfl, lies_of_own o (bytes_pos e), hb⟩
theorem textE (e : Ev) (h : e.In) (w : World) (htab : Lib.TabIs Tryd.prog w "internal/strconv.uint64pow10" .u64 Lib.pow10Tab) : Calls Tryd.prog 8 #[.agg #[.int .u64 e.t, .int .i64 e.s, .int .u64 e.q, .int .i64 e.d, .int .i64 e.k, .int .i64 e.v]] w fun r w' => r = .returned (.string ⟨e.txt.toArray⟩) ∧ Below w.heap.size w w' :=
  text_any e.t e.q e.s e.d e.k e.v h.t h.q h.s h.d h.k h.v w htab

theorem evb_byte {t q : Nat} {s d k v : Int} : ∀ c ∈ evb t q s d k v, c < 256 := by
  intro c hc
  unfold evb at hc
  simp only [List.mem_append] at hc
  rcases hc with h | h | h | h | h | h <;> exact enc_byte _ c h
theorem evsB_byte : ∀ (es : List Ev), ∀ c ∈ evsB es, c < 256
  | [], c, h => by simp [evsB] at h
  | e :: r, c, h => by
    simp only [evsB, List.mem_append] at h
    rcases h with h | h
    · exact evb_byte c h
    · exact evsB_byte r c h
theorem bOf_in {l : List Nat} (h : ∀ c ∈ l, c < 256) (i : Nat) : 0 ≤ bOf l i ∧ bOf l i ≤ 255 := by
  unfold bOf
  by_cases hi : i < l.length
  · have := h l[i] (List.getElem_mem hi)
    simp [List.getD, hi]
    omega
  · simp [List.getD, hi]
theorem unpShort (e : Ev) (he : e.In) (b p i : Nat) (w : World) (h : LiesAt w (.slice (some ⟨b, 0, none⟩) e.bytes.length p) e.bytes) (hi : i < e.bytes.length) :
    Calls Tryd.prog 9 #[.slice (some ⟨b, 0, none⟩) i p] w fun r w' => r = .returned (.tuple #[.agg #[.int .u64 0, .int .i64 0, .int .u64 0, .int .i64 0, .int .i64 0, .int .i64 0], .int .i64 0, .int .i64 11]) ∧ Below w.heap.size w w' := by
  obtain ⟨b', p', hv, hb, hc, _⟩ := h
  simp at hv
  obtain ⟨rfl, rfl⟩ := hv
  have hl := he.len
  refine (unpack_any b 0 i p (bOf e.bytes) w (by omega) hb (fun j hj => hc j (by omega)) (fun j _ => bOf_in evb_byte j)).mono ?_
  rintro r w' ⟨rfl, hbel⟩
  refine ⟨?_, hbel⟩
  rw [short_event he hi]
  rfl
theorem unpAllShort (e f : Ev) (he : e.In) (hf : f.In) (b p i : Nat) (w : World) (h : LiesAt w (.slice (some ⟨b, 0, none⟩) (enc 2 ++ evsB [e, f]).length p) (enc 2 ++ evsB [e, f])) (hi : i < (enc 2 ++ evsB [e, f]).length) :
    Calls Tryd.prog 11 #[.slice (some ⟨b, 0, none⟩) i p] w fun r w' => r = .returned (.tuple #[.slice none 0 0, .int .i64 0, .int .i64 11]) ∧ Below w.heap.size w w' := by
  obtain ⟨b', p', hv, hb, hc, _⟩ := h
  simp only [Value.slice.injEq, Option.some.injEq, Addr.mk.injEq] at hv
  obtain ⟨⟨rfl, _⟩, _, rfl⟩ := hv
  have l1 := he.len
  have l2 := hf.len
  have hl : (enc 2 ++ evsB [e, f]).length ≤ 200 := by simp [evsB, enc_two]; omega
  have hby : ∀ c ∈ enc 2 ++ evsB [e, f], c < 256 := by
    intro c hc
    rcases List.mem_append.1 hc with h | h
    · exact enc_byte 2 c h
    · exact evsB_byte _ c h
  refine (unpackAll_any b 0 i p (bOf (enc 2 ++ evsB [e, f])) w (by omega) hb (fun j hj => hc j (by omega)) (fun j _ => bOf_in hby j)).mono ?_
  rintro r w' ⟨vl, n, er, rfl, hres, hbel⟩
  unfold AllRes at hres
  rw [short_two he hf hi, if_neg (by decide)] at hres
  obtain ⟨rfl, rfl, rfl⟩ := hres
  exact ⟨rfl, hbel⟩

theorem two_lies (e f : Ev) (he : e.In) (hf : f.In) (w : World) : EvsAt (w.alloc (.cells #[.int .u64 e.t, .int .i64 e.s, .int .u64 e.q, .int .i64 e.d, .int .i64 e.k, .int .i64 e.v, .int .u64 f.t, .int .i64 f.s, .int .u64 f.q, .int .i64 f.d, .int .i64 f.k, .int .i64 f.v] 26)) (some ⟨w.heap.size, 0, none⟩) [e, f] := by
  have h := heap_alloc_new w (.cells #[.int .u64 e.t, .int .i64 e.s, .int .u64 e.q, .int .i64 e.d, .int .i64 e.k, .int .i64 e.v, .int .u64 f.t, .int .i64 f.s, .int .u64 f.q, .int .i64 f.d, .int .i64 f.k, .int .i64 f.v] 26)
  refine ⟨Or.inr ⟨w.heap.size, 0, rfl, by simp, fun i hi => ?_⟩, fun x hx => ?_⟩
  · have : i = 0 ∨ i = 1 := by simp at hi; omega
    rcases this with rfl | rfl <;> (refine ⟨?_, ?_, ?_, ?_, ?_, ?_⟩ <;> (unfold World.cell?; simp only [h]; rfl))
  · simp at hx
    rcases hx with rfl | rfl
    · exact he
    · exact hf

theorem Two.startDrew (w : World) (e f : Ev) (W : World) (h : W = ((w.alloc (.cells #[.int .u64 e.t, .int .i64 e.s, .int .u64 e.q, .int .i64 e.d, .int .i64 e.k, .int .i64 e.v] 26)).alloc (.cells #[.int .u64 f.t, .int .i64 f.s, .int .u64 f.q, .int .i64 f.d, .int .i64 f.k, .int .i64 f.v] 26))) : Two w e f W.drew := by
  subst h
  exact (Two.start w e f).keep (Below.refl _ _).drew

theorem at3 {w w0 W V : World} {e f : Ev} (h : Two w e f w0) (hb : Below w0.heap.size w0 W) (hW : V = W) : V.cell? ⟨w.heap.size, 0, none⟩ = some (.int .u64 e.t) ∧ V.cell? ⟨w.heap.size, 1, none⟩ = some (.int .i64 e.s) ∧ V.cell? ⟨w.heap.size, 2, none⟩ = some (.int .u64 e.q) ∧ V.cell? ⟨w.heap.size, 3, none⟩ = some (.int .i64 e.d) ∧ V.cell? ⟨w.heap.size, 4, none⟩ = some (.int .i64 e.k) ∧ V.cell? ⟨w.heap.size, 5, none⟩ = some (.int .i64 e.v) ∧
    V.cell? ⟨w.heap.size + 1, 0, none⟩ = some (.int .u64 f.t) ∧ V.cell? ⟨w.heap.size + 1, 1, none⟩ = some (.int .i64 f.s) ∧ V.cell? ⟨w.heap.size + 1, 2, none⟩ = some (.int .u64 f.q) ∧ V.cell? ⟨w.heap.size + 1, 3, none⟩ = some (.int .i64 f.d) ∧ V.cell? ⟨w.heap.size + 1, 4, none⟩ = some (.int .i64 f.k) ∧ V.cell? ⟨w.heap.size + 1, 5, none⟩ = some (.int .i64 f.v) ∧ Below w0.heap.size w0 V := by
  subst hW
  obtain ⟨a0, a1, a2, a3, a4, a5, b0, b1, b2, b3, b4, b5, hz, hB⟩ := h.keep hb
  exact ⟨a0, a1, a2, a3, a4, a5, b0, b1, b2, b3, b4, b5, hb⟩
theorem below3 {w w0 W : World} {e f : Ev} (h : W.cell? ⟨w.heap.size, 0, none⟩ = some (.int .u64 e.t) ∧ W.cell? ⟨w.heap.size, 1, none⟩ = some (.int .i64 e.s) ∧ W.cell? ⟨w.heap.size, 2, none⟩ = some (.int .u64 e.q) ∧ W.cell? ⟨w.heap.size, 3, none⟩ = some (.int .i64 e.d) ∧ W.cell? ⟨w.heap.size, 4, none⟩ = some (.int .i64 e.k) ∧ W.cell? ⟨w.heap.size, 5, none⟩ = some (.int .i64 e.v) ∧
    W.cell? ⟨w.heap.size + 1, 0, none⟩ = some (.int .u64 f.t) ∧ W.cell? ⟨w.heap.size + 1, 1, none⟩ = some (.int .i64 f.s) ∧ W.cell? ⟨w.heap.size + 1, 2, none⟩ = some (.int .u64 f.q) ∧ W.cell? ⟨w.heap.size + 1, 3, none⟩ = some (.int .i64 f.d) ∧ W.cell? ⟨w.heap.size + 1, 4, none⟩ = some (.int .i64 f.k) ∧ W.cell? ⟨w.heap.size + 1, 5, none⟩ = some (.int .i64 f.v) ∧ Below w0.heap.size w0 W) : Below w0.heap.size w0 W := h.2.2.2.2.2.2.2.2.2.2.2.2

attribute [-go_sem] run_eql_struct in
set_option maxRecDepth 100000 in
set_option maxHeartbeats 4000000 in
theorem law_prefixes (e f : Ev) (he : e.In) (hf : f.In) (w : World) (htab : Lib.TabIs Tryd.prog w "internal/strconv.uint64pow10" .u64 Lib.pow10Tab) :
    Calls Tryd.prog 3 #[.agg #[.int .u64 e.t, .int .i64 e.s, .int .u64 e.q, .int .i64 e.d, .int .i64 e.k, .int .i64 e.v], .agg #[.int .u64 f.t, .int .i64 f.s, .int .u64 f.q, .int .i64 f.d, .int .i64 f.k, .int .i64 f.v]] w fun r w' => r = .returned (.bool true) ∧ Below w.heap.size w w' := by
  have TAB : Hid (Lib.TabBelow Tryd.prog w.heap.size w "internal/strconv.uint64pow10" .u64 Lib.pow10Tab) := Lib.tabBelow_of_tabIs htab
  clear htab
  have hle := he.len
  have hlf := hf.len
  go_enter Tryd.func3, Tryd.ntmps3
  go_wp2_with fail
  go_region_held3 (fun w' => w'.cell? ⟨w.heap.size, 0, none⟩ = some (.int .u64 e.t) ∧ w'.cell? ⟨w.heap.size, 1, none⟩ = some (.int .i64 e.s) ∧ w'.cell? ⟨w.heap.size, 2, none⟩ = some (.int .u64 e.q) ∧ w'.cell? ⟨w.heap.size, 3, none⟩ = some (.int .i64 e.d) ∧ w'.cell? ⟨w.heap.size, 4, none⟩ = some (.int .i64 e.k) ∧ w'.cell? ⟨w.heap.size, 5, none⟩ = some (.int .i64 e.v) ∧
    w'.cell? ⟨w.heap.size + 1, 0, none⟩ = some (.int .u64 f.t) ∧ w'.cell? ⟨w.heap.size + 1, 1, none⟩ = some (.int .i64 f.s) ∧ w'.cell? ⟨w.heap.size + 1, 2, none⟩ = some (.int .u64 f.q) ∧ w'.cell? ⟨w.heap.size + 1, 3, none⟩ = some (.int .i64 f.d) ∧ w'.cell? ⟨w.heap.size + 1, 4, none⟩ = some (.int .i64 f.k) ∧ w'.cell? ⟨w.heap.size + 1, 5, none⟩ = some (.int .i64 f.v) ∧
    w.heap.size + 2 ≤ w'.heap.size ∧ Below w.heap.size w w') (first | (exact Two.startDrew w e f _ rfl) | (refine Two.keep (e := e) (f := f) ?_ hb; assumption)) (first | (go_at_call 6; refine (packE e he _).mono ?_; rintro _ w' ⟨x1, rfl, l1, hb⟩) | (go_at_call 6; refine (packE f hf _).mono ?_; rintro _ w' ⟨x2, rfl, l2, hb⟩))
  rename_i hS
  replace l1 := l1.below hb
  have hT : Two w e f w' := hS
  clear hb
  obtain ⟨b1, p1, rfl, hb1, k1, hc1⟩ := l1
  obtain ⟨b2, p2, rfl, hb2, k2, hc2⟩ := l2
  have HT : Hid (Two w e f w') := hT
  have L1 : Hid (LiesAt w' (.slice (some ⟨b1, 0, none⟩) e.bytes.length p1) e.bytes) := ⟨b1, p1, rfl, hb1, k1, hc1⟩
  have L2 : Hid (LiesAt w' (.slice (some ⟨b2, 0, none⟩) f.bytes.length p2) f.bytes) := ⟨b2, p2, rfl, hb2, k2, hc2⟩
  clear k1 k2 hT
  have heq : ∀ W, (binOp .eql 26 (.agg #[.int .u64 e.t, .int .i64 e.s, .int .u64 e.q, .int .i64 e.d, .int .i64 e.k, .int .i64 e.v]) (.agg #[.int .u64 f.t, .int .i64 f.s, .int .u64 f.q, .int .i64 f.d, .int .i64 f.k, .int .i64 f.v])).run Tryd.prog W = .ok (.bool (decide (e.bytes = f.bytes))) W := fun W => by rw [eql_ev, ev_dec]
  have hpos := bytes_pos e
  have hd0 : ((e.bytes.length : Int) == 0) = false := by rw [beq_eq_false_iff_ne]; omega
  go_wp2_with fail
  clear heq
  have htx := ev_dec2 e f he hf
  have hsm := fun W h1 h2 => sameBytes_any (.slice (some ⟨b1, 0, none⟩) e.bytes.length p1) (.slice (some ⟨b2, 0, none⟩) f.bytes.length p2) e.bytes f.bytes W (by omega) h1 h2
  generalize decide (e.bytes = f.bytes) = D at htx hsm ⊢
  have HSM : Hid (∀ W, LiesAt W (.slice (some ⟨b1, 0, none⟩) e.bytes.length p1) e.bytes → LiesAt W (.slice (some ⟨b2, 0, none⟩) f.bytes.length p2) f.bytes → Calls Tryd.prog 7 #[.slice (some ⟨b1, 0, none⟩) e.bytes.length p1, .slice (some ⟨b2, 0, none⟩) f.bytes.length p2] W fun r w' => r = .returned (.bool D) ∧ Below W.heap.size W w') := hsm
  clear hsm hS
  have hDD : (D != D) = false := by simp
  have hB0 : Below w.heap.size w w' := HT.out.2.2.2.2.2.2.2.2.2.2.2.2.2
  have hz0 : w.heap.size ≤ w'.heap.size := hB0.size
  go_region_held3 (fun W => W.cell? ⟨w.heap.size, 0, none⟩ = some (.int .u64 e.t) ∧ W.cell? ⟨w.heap.size, 1, none⟩ = some (.int .i64 e.s) ∧ W.cell? ⟨w.heap.size, 2, none⟩ = some (.int .u64 e.q) ∧ W.cell? ⟨w.heap.size, 3, none⟩ = some (.int .i64 e.d) ∧ W.cell? ⟨w.heap.size, 4, none⟩ = some (.int .i64 e.k) ∧ W.cell? ⟨w.heap.size, 5, none⟩ = some (.int .i64 e.v) ∧
    W.cell? ⟨w.heap.size + 1, 0, none⟩ = some (.int .u64 f.t) ∧ W.cell? ⟨w.heap.size + 1, 1, none⟩ = some (.int .i64 f.s) ∧ W.cell? ⟨w.heap.size + 1, 2, none⟩ = some (.int .u64 f.q) ∧ W.cell? ⟨w.heap.size + 1, 3, none⟩ = some (.int .i64 f.d) ∧ W.cell? ⟨w.heap.size + 1, 4, none⟩ = some (.int .i64 f.k) ∧ W.cell? ⟨w.heap.size + 1, 5, none⟩ = some (.int .i64 f.v) ∧ Below w'.heap.size w' W) (first | (exact at3 (e := e) (f := f) HT.out ((below3 (e := e) (f := f) (by assumption)).trans (hb.mono (below3 (e := e) (f := f) (by assumption)).size)) rfl) | (exact at3 HT.out (Below.refl _ _).drew rfl)) (first | (go_at_call 7; refine (HSM.out _ (L1.out.below (below3 (e := e) (f := f) (by assumption))) (L2.out.below (below3 (e := e) (f := f) (by assumption)))).mono ?_; rintro _ w3 ⟨rfl, hb⟩) | (go_at_call 8; refine (textE _ (by first | exact he | exact hf) _ (TAB.out _ (hB0.trans ((below3 (e := e) (f := f) (by assumption)).mono hz0)))).mono ?_; rintro _ w3 ⟨rfl, hb⟩))
  rename_i hS3
  have hT3 : Two w e f w3 := HT.out.keep (below3 (e := e) (f := f) hS3)
  have HT3 : Hid (Two w e f w3) := hT3
  have L13 := L1.out.below (below3 (e := e) (f := f) hS3)
  have L23 := L2.out.below (below3 (e := e) (f := f) hS3)
  clear hb hS3 hT3 HT L1 L2 HSM
  have HL1 : Hid (LiesAt w3 (.slice (some ⟨b1, 0, none⟩) e.bytes.length p1) e.bytes) := L13
  have HL2 : Hid (LiesAt w3 (.slice (some ⟨b2, 0, none⟩) f.bytes.length p2) f.bytes) := L23
  clear L13 L23
  go_wp2_with fail
  go_loopw [45] (fun vi wr => ∃ i : Nat, vi = .int .i64 i ∧ i ≤ e.bytes.length ∧ Two w e f wr ∧ LiesAt wr (.slice (some ⟨b1, 0, none⟩) e.bytes.length p1) e.bytes ∧ LiesAt wr (.slice (some ⟨b2, 0, none⟩) f.bytes.length p2) f.bytes) (fun vi _ => e.bytes.length - (intOf vi).toNat)
  case atStart => exact ⟨0, rfl, Nat.zero_le _, HT3.out, HL1.out, HL2.out⟩
  case round =>
    obtain ⟨i, rfl, hi, hT, hL1, hL2⟩ := hrel
    have HR : Hid (Two w e f wr ∧ LiesAt wr (.slice (some ⟨b1, 0, none⟩) e.bytes.length p1) e.bytes ∧ LiesAt wr (.slice (some ⟨b2, 0, none⟩) f.bytes.length p2) f.bytes) := ⟨hT, hL1, hL2⟩
    clear hT hL1 hL2
    by_cases hlt : i < e.bytes.length
    · have hcp := hc1.1
      go_wp2_with fail
      refine (unpShort e he b1 p1 i _ HR.out.2.1 hlt).mono ?_
      rintro x w4 ⟨rfl, b4⟩
      have b5 := b4.alloc (Nat.le_trans (Nat.le_refl _) b4.size) (.cells #[.int .u64 0, .int .i64 0, .int .u64 0, .int .i64 0, .int .i64 0, .int .i64 0] 26)
      go_wp2_with fail
      go_roundw
      case rel => exact ⟨i + 1, by go_num, by omega, HR.out.1.keep b5, HR.out.2.1.below b5, HR.out.2.2.below b5⟩
      case measure => simp [intOf]; omega
    · obtain ⟨a0, a1, a2, a3, a4, a5, d0, d1, d2, d3, d4, d5, hz, hBw⟩ := HR.out.1
      have hE := two_lies e f he hf wr
      have HE : Hid (EvsAt (wr.alloc (.cells #[.int .u64 e.t, .int .i64 e.s, .int .u64 e.q, .int .i64 e.d, .int .i64 e.k, .int .i64 e.v, .int .u64 f.t, .int .i64 f.s, .int .u64 f.q, .int .i64 f.d, .int .i64 f.k, .int .i64 f.v] 26)) (some ⟨wr.heap.size, 0, none⟩) [e, f]) := hE
      clear hE
      go_wp2_with fail
      refine (packAll_any [e, f] _ _ _ HE.out (by simp)).mono ?_
      rintro x w6 ⟨v6, rfl, o6, b6⟩
      have hpl : (enc 2 ++ evsB [e, f]).length = 1 + e.bytes.length + f.bytes.length := by simp [evsB, enc_two]; omega
      have L6 : LiesAt w6 v6 (enc 2 ++ evsB [e, f]) := lies_of_own o6 (by show 0 < (enc 2 ++ evsB [e, f]).length; omega)
      have B6 : Below w.heap.size w w6 := (hBw.alloc hBw.size _).trans (b6.mono (by simp; omega))
      clear o6 b6 a0 a1 a2 a3 a4 a5 d0 d1 d2 d3 d4 d5 HE HR hz
      obtain ⟨b7, p7', rfl, hb7, k7, hc7, hm7⟩ := L6
      have hL7 : LiesAt w6 (.slice (some ⟨b7, 0, none⟩) (enc 2 ++ evsB [e, f]).length p7') (enc 2 ++ evsB [e, f]) := ⟨b7, p7', rfl, hb7, k7, hc7, hm7⟩
      have hU := fun W i h hi => unpAllShort e f he hf b7 p7' i W h hi
      clear k7
      have e2 : (enc [e, f].length ++ evsB [e, f]).length = (enc 2 ++ evsB [e, f]).length := rfl
      obtain ⟨M, hM⟩ : ∃ M, (enc 2 ++ evsB [e, f]).length = M := ⟨_, rfl⟩
      rw [e2] at *
      simp only [hM] at hU
      rw [hM] at hpl hc7 hL7 ⊢
      obtain ⟨l7, hl7⟩ : ∃ l7, enc 2 ++ evsB [e, f] = l7 := ⟨_, rfl⟩
      simp only [hl7] at hU
      rw [hl7] at hL7
      have HL7 : Hid (LiesAt w6 (.slice (some ⟨b7, 0, none⟩) M p7') l7) := hL7
      have HU : Hid (∀ W i, LiesAt W (.slice (some ⟨b7, 0, none⟩) M p7') l7 → i < M → Calls Tryd.prog 11 #[.slice (some ⟨b7, 0, none⟩) i p7'] W fun r w' => r = .returned (.tuple #[.slice none 0 0, .int .i64 0, .int .i64 11]) ∧ Below W.heap.size W w') := hU
      have hM1 : ((M : Int) != 1 + (e.bytes.length : Int) + (f.bytes.length : Int)) = false := by rw [bne_eq_false_iff_eq]; omega
      clear hM hl7 hU hL7 e2
      go_wp2_with fail
      go_loopw [83] (fun vi wr => ∃ i : Nat, vi = .int .i64 i ∧ i ≤ M ∧ LiesAt wr (.slice (some ⟨b7, 0, none⟩) M p7') l7 ∧ Below w.heap.size w wr) (fun vi _ => M - (intOf vi).toNat)
      case atStart => exact ⟨0, rfl, Nat.zero_le _, HL7.out, B6⟩
      case round =>
        obtain ⟨i, rfl, hi2, hL, hB⟩ := hrel
        have HR2 : Hid (LiesAt wr (.slice (some ⟨b7, 0, none⟩) M p7') l7) := hL
        clear hL
        by_cases hlt2 : i < M
        · go_wp2_with fail
          refine (HU.out _ i HR2.out hlt2).mono ?_
          rintro x w8 ⟨rfl, b8⟩
          go_wp2_with fail
          go_roundw
          case rel => exact ⟨i + 1, by go_num, by omega, HR2.out.below b8, hB.trans (b8.mono hB.size)⟩
          case measure => simp [intOf]; omega
        · go_wp2_with fail
          go_ret
          exact ⟨rfl, hB⟩
end Go.Proofs.YtpeojhhbinfekacDoor
