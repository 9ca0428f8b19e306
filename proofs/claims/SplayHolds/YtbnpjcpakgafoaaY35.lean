import Derived.Test.YtbnpjcpakgafoaaY34
namespace Go.Proofs.Ytbnpjcpakgafoaa
open Go.ChangeShapes Go.WideShapes Go.ChangeAt Go.RowKit
set_option linter.unusedVariables false
set_option linter.unusedSimpArgs false

/-- calls that come in -/
def OpsIn (W : World) (p : Option Addr) (N : Nat) (O : Nat → OpV) : Prop := N = 0 ∨ ∃ b o, p = some ⟨b, o, none⟩ ∧ b < W.heap.size ∧ ∀ i r, i < N → r < 7 → W.cell? ⟨b, o + i * 7 + r, none⟩ = some ((opA (O i)).toList.getD r undef)
theorem new_QS9 {W : World} {base qb nb : Nat} {room : Int} (hq : W.heap[qb]? = some (.cells #[.slice (some ⟨nb, 0, none⟩) 1 1, .int .i64 0, .int .i64 0, .int .i64 0, .int .i64 room, .int .i64 0] 78 (0, 0))) (hO : Own W base 83 8 (.slice (some ⟨nb, 0, none⟩) 1 1) 1 zNd) (hne : qb ≠ nb) (hb : base ≤ qb) (hr : 1 ≤ room ∧ room ≤ 8192) : QS base qb nb room 0 [] W := new_QS hq hO hne hb hr
theorem QI.later {W W' : World} {base qb g c n : Nat} {A : Ar} {t : Tr} {fl : List Nat} {root : Nat} {room work : Int} (h : QI W base qb g c n A t fl root room work) (hb : Below W.heap.size W W') : QI W' base qb g c n A t fl root room work := ⟨h.q.later hb, h.ti, h.fr, h.nd, h.inr, h.cnt, h.z, h.nr, h.rm, h.srt, h.wk⟩
theorem QI.far {W W' : World} {base qb g c n : Nat} {A : Ar} {t : Tr} {fl : List Nat} {root : Nat} {room work : Int} (h : QI W base qb g c n A t fl root room work) (h1 : W'.heap[qb]? = W.heap[qb]?) (h2 : W'.heap[g]? = W.heap[g]?) : QI W' base qb g c n A t fl root room work := ⟨⟨h.q.box.far fun j e => (by cases e; exact h1), h.q.row.far fun j e => (by cases e; exact h2), h.q.ne⟩, h.ti, h.fr, h.nd, h.inr, h.cnt, h.z, h.nr, h.rm, h.srt, h.wk⟩
theorem spX0 (A : Ar) {t : Tr} {m : Nat} {r : List Nat} (h : t.ps = m :: r) : spX A t 0 = A.E m := by
  have hsp : (t.spots 0).map Prod.fst = t.ps := Tr.spots_ps t 0
  rw [h] at hsp
  unfold spX
  cases hs : t.spots 0 with
  | nil => rw [hs] at hsp; simp at hsp
  | cons x l =>
    rw [hs] at hsp
    simp at hsp
    show A.E x.1 = A.E m
    rw [hsp.1]
theorem EvsL.at {W : World} {b N : Nat} {X : Nat → Ev} (h : EvsL W b N X) {i : Nat} (hi : i < N) : W.cell? ⟨b, i * 6, none⟩ = some (.int .u64 (X i).t) ∧ W.cell? ⟨b, i * 6 + 1, none⟩ = some (.int .i64 (X i).s) ∧ W.cell? ⟨b, i * 6 + 2, none⟩ = some (.int .u64 (X i).q) ∧ W.cell? ⟨b, i * 6 + 3, none⟩ = some (.int .i64 (X i).d) ∧ W.cell? ⟨b, i * 6 + 4, none⟩ = some (.int .i64 (X i).k) ∧ W.cell? ⟨b, i * 6 + 5, none⟩ = some (.int .i64 (X i).v) :=
  ⟨h.2 i 0 hi (by decide), h.2 i 1 hi (by decide), h.2 i 2 hi (by decide), h.2 i 3 hi (by decide), h.2 i 4 hi (by decide), h.2 i 5 hi (by decide)⟩
theorem neq_ev9 (x : Ev) (W : World) : (binOp .neq 33 (.agg #[.int .u64 x.t, .int .i64 x.s, .int .u64 x.q, .int .i64 x.d, .int .i64 x.k, .int .i64 x.v]) (.agg #[.int .u64 x.t, .int .i64 x.s, .int .u64 x.q, .int .i64 x.d, .int .i64 x.k, .int .i64 x.v])).run Try.prog W = .ok (.bool false) W := neq_evV _ _ _ _ _ _ W
set_option maxRecDepth 100000 in
theorem roots_bad (room : Int) (p : Option Addr) (N c : Nat) (kt ks kq : Int) (W : World) (h : room < 1 ∨ 8192 < room) :
    Calls Try.prog 5 #[.int .i64 room, .slice p N c, .agg #[.int .u64 kt, .int .i64 ks, .int .u64 kq]] W fun e W' => e = .returned (.bool true) ∧ Below W.heap.size W W' := by
  obtain ⟨W1, hW1⟩ : ∃ W1, W.alloc (.cells #[.int .u64 kt, .int .i64 ks, .int .u64 kq] 31) = W1 := ⟨_, rfl⟩
  have hb1 : Below W.heap.size W W1 := by rw [← hW1]; exact (Below.refl _ W).alloc (Nat.le_refl _) _
  have HW : Hid (W.alloc (.cells #[.int .u64 kt, .int .i64 ks, .int .u64 kq] 31) = W1) := hW1
  have HN := q_newBad room h W1
  clear hW1
  by_cases h1 : room < 1
  · have d1 : decide (room < 1) = true := by simpa using h1
    clear h h1
    go_enter Try.func5, Try.ntmps5
    go_wp2_with (go_at_call 16; rw [HW.out]; (with_reducible refine HN.mono ?_); rintro e w1 ⟨rfl, h9⟩; subst h9)
    go_ret
    exact ⟨rfl, hb1⟩
  · have d1 : decide (room < 1) = false := by simpa using h1
    have d2 : decide (8192 < room) = true := by simp; omega
    clear h h1
    go_enter Try.func5, Try.ntmps5
    go_wp2_with (go_at_call 16; rw [HW.out]; (with_reducible refine HN.mono ?_); rintro e w1 ⟨rfl, h9⟩; subst h9)
    go_ret
    exact ⟨rfl, hb1⟩
set_option maxRecDepth 100000 in
set_option maxHeartbeats 16000000 in
theorem roots_good (room : Int) (p : Option Addr) (N c : Nat) (O : Nat → OpV) (kt ks kq : Int) (W : World) (h1 : 1 ≤ room) (h2 : room ≤ 8192) (hk : OpsIn W p N O) (hN : N ≤ 3000000000000) :
    Calls Try.prog 5 #[.int .i64 room, .slice p N c, .agg #[.int .u64 kt, .int .i64 ks, .int .u64 kq]] W fun e W' => e = .returned (.bool true) ∧ Below W.heap.size W W' := by
  obtain ⟨W1, hW1⟩ : ∃ W1, W.alloc (.cells #[.int .u64 kt, .int .i64 ks, .int .u64 kq] 31) = W1 := ⟨_, rfl⟩
  have hb1 : Below W.heap.size W W1 := by rw [← hW1]; exact (Below.refl _ W).alloc (Nat.le_refl _) _
  have hK1 : KBx W1 W.heap.size kt ks kq := by unfold KBx; rw [← hW1]; exact World.alloc_heap_new W _
  have hz1 : W1.heap.size = W.heap.size + 1 := by rw [← hW1, World.size_alloc]
  have HW : Hid (W.alloc (.cells #[.int .u64 kt, .int .i64 ks, .int .u64 kq] 31) = W1) := hW1
  have HN := q_new room h1 h2 W1
  have HK1 : Hid (KBx W1 W.heap.size kt ks kq ∧ Below W.heap.size W W1 ∧ W1.heap.size = W.heap.size + 1 ∧ OpsIn W p N O ∧ N ≤ 3000000000000 ∧ 1 ≤ room ∧ room ≤ 8192) := ⟨hK1, hb1, hz1, hk, hN, h1, h2⟩
  clear hW1 hb1 hK1 hz1 hk hN h1 h2
  go_enter Try.func5, Try.ntmps5
  go_wp2_with (go_at_call 16; rw [HW.out]; (with_reducible refine HN.mono ?_); rintro e w2 ⟨qb, nb, rfl, hq, hO, hne, hqs, hb2⟩; have HQ : Hid (QS W1.heap.size qb nb room 0 [] w2 ∧ Below W1.heap.size W1 w2) := ⟨new_QS hq hO hne hqs ⟨HK1.out.2.2.2.2.2.1, HK1.out.2.2.2.2.2.2⟩, hb2⟩; clear hq hO hne hqs hb2)
  go_loopw [9] (fun x wr => ∃ (i g : Nat) (L : List Ev), x = .int .i64 (i : Int) ∧ i ≤ N ∧ QS W1.heap.size qb g room (16384 * (i : Int)) L wr ∧ Below W1.heap.size W1 wr) (fun x _ => N - (intOf x).toNat)
  case atStart => exact ⟨0, nb, [], rfl, Nat.zero_le _, HQ.out.1, HQ.out.2⟩
  case round =>
    obtain ⟨i, g, L, rfl, hiN, hQ, hbr⟩ := hrel
    have HQ0 : Hid (QS W1.heap.size qb g room (16384 * (i : Int)) L wr ∧ Below W1.heap.size W1 wr) := ⟨hQ, hbr⟩
    clear HQ hQ hbr HN HW
    by_cases hlt : i < N
    · have dl : decide ((i : Int) < (N : Int)) = true := by simp; omega
      have i0 : (0 : Int) ≤ (i : Int) := by omega
      have i1 : (i : Int) < (N : Int) := by omega
      obtain ⟨hK1, hb1, hz1, hk, hN, h1, h2⟩ := HK1.out
      obtain ⟨b, o, hp, hbl, hcells⟩ : ∃ b o, p = some ⟨b, o, none⟩ ∧ b < W.heap.size ∧ ∀ i r, i < N → r < 7 → W.cell? ⟨b, o + i * 7 + r, none⟩ = some ((opA (O i)).toList.getD r undef) := by
        rcases hk with h9 | h9
        · omega
        · exact h9
      subst hp
      have hcw : ∀ r, r < 7 → wr.cell? ⟨b, o + i * 7 + r, none⟩ = some ((opA (O i)).toList.getD r undef) := fun r hr => (cell_below (a := ⟨b, o + i * 7 + r, none⟩) HQ0.out.2 (by show b < W1.heap.size; omega)).trans ((cell_below (a := ⟨b, o + i * 7 + r, none⟩) hb1 hbl).trans (hcells i r hlt hr))
      have x0 : wr.cell? ⟨b, o + i * 7, none⟩ = some (.int .i64 (O i).kd) := hcw 0 (by decide)
      have x1 : wr.cell? ⟨b, o + i * 7 + 1, none⟩ = some (.int .i64 (O i).wh) := hcw 1 (by decide)
      have x2 : wr.cell? ⟨b, o + i * 7 + 2, none⟩ = some (.int .u64 (O i).t) := hcw 2 (by decide)
      have x3 : wr.cell? ⟨b, o + i * 7 + 3, none⟩ = some (.int .i64 (O i).s) := hcw 3 (by decide)
      have x4 : wr.cell? ⟨b, o + i * 7 + 4, none⟩ = some (.int .u64 (O i).q) := hcw 4 (by decide)
      have x5 : wr.cell? ⟨b, o + i * 7 + 5, none⟩ = some (.int .i64 (O i).d) := hcw 5 (by decide)
      have x6 : wr.cell? ⟨b, o + i * 7 + 6, none⟩ = some (.int .i64 (O i).n) := hcw 6 (by decide)
      have ei : IntKind.i64.wrap ((i : Int) + 1) = (i : Int) + 1 := by rw [IntKind.wrap_i64]; omega
      have HA := act_any (O i) wr HQ0.out.1 (by omega)
      unfold opA at HA
      clear hcw hcells hK1 hb1 hk hbl h1 h2
      go_wp2_with (go_at_call 14; (with_reducible refine HA.mono ?_); rintro e w3 ⟨rfl, g3, L3, hQ3, hg3, hC3⟩; have HQ3 : Hid (QS W1.heap.size qb g3 room (16384 * (i : Int) + 16384) L3 w3 ∧ Ch (S2 qb g) wr w3) := ⟨hQ3, hC3⟩; clear hQ3 hC3 hg3)
      have hl2 := HQ0.out.1.lt
      exact ⟨⟨i + 1, g3, L3, rfl, hlt, HQ3.out.1.up (by omega), HQ0.out.2.trans (HQ3.out.2.toBelow HQ0.out.2.size (by rintro k (rfl | rfl); exact hl2.1.2; exact hl2.2.2))⟩, meas hlt⟩
    · have dl : decide ((i : Int) < (N : Int)) = false := by simp; omega
      obtain rfl : i = N := by omega
      have HS := size_any wr HQ0.out.1
      have hl2 := HQ0.out.1.lt
      by_cases hfull : (L.length : Int) = room
      · have ds : ((L.length : Int) == room) = true := by simpa using hfull
        have HP := popS2 wr HQ0.out.1 (by have := HK1.out.2.2.2.2.1; omega)
        have HFULL : Hid ((L.length : Int) = room) := hfull
        clear hfull
        go_upto_region 10 with (first | (go_at_call 17; (with_reducible refine HS.mono ?_); rintro e w4 ⟨rfl, h9⟩; subst h9) | (go_at_call 15; (with_reducible refine HP.mono ?_); rintro e w5 ⟨x, code, L5, rfl, hcs, hq5, hC5⟩; have HQ5 : Hid (QS W1.heap.size qb g room (16384 * (i : Int) + 16384) L5 w5 ∧ (L5.length : Int) ≠ room ∧ Below W1.heap.size W1 w5) := ⟨hq5, (by have h8 := HFULL.out; have h7 := HK1.out.2.2.2.2.2.1; rcases hcs with ⟨h6, _⟩ | ⟨_, h6⟩; (rw [h6] at h8; simp at h8; omega); (rw [h6, List.length_cons] at h8; omega)), HQ0.out.2.trans (hC5.toBelow HQ0.out.2.size (by rintro k (rfl | rfl); exact hl2.1.2; exact hl2.2.2))⟩; clear hcs hq5 hC5))
        clear HS HQ0 ds dl hlt HFULL hl2
        have hKB5 : KBx w5 W.heap.size kt ks kq := (HQ5.out.2.2.block _ (by have := HK1.out.2.2.1; omega)).trans HK1.out.1
        obtain ⟨k0, k1, k2⟩ := hKB5.cells
        have HI := ins_root ⟨kt, ks, kq, 0, 0, 77⟩ w5 HQ5.out.1 (by have := HK1.out.2.2.2.2.1; omega) HQ5.out.2.1
        unfold evV at HI
        go_upto_region 11 with (go_at_call 12; (with_reducible refine HI.mono ?_); rintro e w6 ⟨code, g6, c6, n6, A6, t6, fl6, r6, wk6, rfl, hcode, hq6, hr6, hk6, hw6, hg6, hC6⟩; have HQ6 : Hid (QI w6 W1.heap.size qb g6 c6 n6 A6 t6 fl6 r6 room wk6 ∧ r6 ≠ 0 ∧ cmpE kt ks kq (A6.E r6) = 0 ∧ wk6 ≤ 16384 * (i : Int) + 16384 + 8192 ∧ Below W1.heap.size W1 w6) := ⟨hq6, hr6, hk6, hw6, HQ5.out.2.2.trans (hC6.toBelow HQ5.out.2.2.size (by have h9 := HQ5.out.1.lt; rintro k (rfl | rfl); exact h9.1.2; exact h9.2.2))⟩; clear hq6 hr6 hk6 hw6 hg6 hC6)
        clear HI k0 k1 k2 hKB5
        rcases hcode with hcode | hcode
        all_goals
          subst hcode
          go_wp2_with fail
          go_loopw [11] (fun x wr => ∃ (v : Nat) (A : Ar) (t : Tr) (root : Nat) (work : Int), x = .int .i64 (v : Int) ∧ v ≤ 2 ∧ QI wr W1.heap.size qb g6 c6 n6 A t fl6 root room work ∧ root ≠ 0 ∧ cmpE kt ks kq (A.E root) = 0 ∧ work ≤ 16384 * (i : Int) + 16384 + 8192 + 16384 * (v : Int) ∧ Below W1.heap.size W1 wr) (fun x _ => 2 - (intOf x).toNat)
          case atStart => exact ⟨0, A6, t6, r6, wk6, rfl, Nat.zero_le _, HQ6.out.1, HQ6.out.2.1, HQ6.out.2.2.1, by have := HQ6.out.2.2.2.1; omega, HQ6.out.2.2.2.2⟩
          case round =>
            obtain ⟨v, A, t, root, work, rfl, hv, hq, hr, hkr, hwk, hbr⟩ := hrel
            clear HQ6 HQ5
            by_cases hlt : v < 2
            · have dl : decide ((v : Int) < 2) = true := by simp; omega
              have ev : IntKind.i64.wrap ((v : Int) + 1) = (v : Int) + 1 := by rw [IntKind.wrap_i64]; omega
              have hls := hq.q.lt
              have hts : 0 < t.size := by obtain ⟨l, r, rfl⟩ := hq.rootT hr; simp [Tr.size]
              have hNN := HK1.out.2.2.2.2.1
              have HL := listQ wr hq
              have HX : Hid (root ≠ 0 ∧ cmpE kt ks kq (A.E root) = 0 ∧ work ≤ 16384 * (i : Int) + 16384 + 8192 + 16384 * (v : Int) ∧ Below W1.heap.size W1 wr ∧ ((qb < wr.heap.size ∧ W1.heap.size ≤ qb) ∧ g6 < wr.heap.size ∧ W1.heap.size ≤ g6) ∧ 0 < t.size ∧ i ≤ 3000000000000 ∧ v < 2 ∧ QI wr W1.heap.size qb g6 c6 n6 A t fl6 root room work) := ⟨hr, hkr, hwk, hbr, hls, hts, hNN, hlt, hq⟩
              clear hr hkr hwk hbr hls hts hNN hlt hq hv
              go_upto_region 17 with (go_at_call 9; (with_reducible refine HL.mono ?_); rintro e wL ⟨bl, rfl, hEl, hbl, hqL, hCL⟩; have HLs : Hid (EvsL wL bl t.size (spX A t) ∧ wr.heap.size ≤ bl ∧ QI wL W1.heap.size qb g6 c6 n6 A t fl6 root room work ∧ Ch (S2 qb g6) wr wL) := ⟨hEl, hbl, hqL, hCL⟩; clear hEl hbl hqL hCL)
              have HD := depthsQ wL HLs.out.2.2.1 HX.out.2.2.2.2.2.1
              clear HL
              go_upto_region 18 with (go_at_call 18; (with_reducible refine HD.mono ?_); rintro e wD ⟨bd, cd, rfl, hEd, hbd, hqD, hCD⟩; have HDs : Hid ((bd < wD.heap.size ∧ ∀ i, i < t.size → wD.cell? ⟨bd, i, none⟩ = some (dpF (t.spots 0) i)) ∧ wL.heap.size ≤ bd ∧ QI wD W1.heap.size qb g6 c6 n6 A t fl6 root room work ∧ Ch (S2 qb g6) wL wD) := ⟨hEd, hbd, hqD, hCD⟩; clear hEd hbd hqD hCD)
              clear HD
              have hs1 := HLs.out.2.2.2.size
              have hs2 := HDs.out.2.2.2.size
              obtain ⟨⟨hl1, hl2⟩, hl3, hl4⟩ := HX.out.2.2.2.2.1
              have hblr := HLs.out.2.1
              have nbl : ¬ S2 qb g6 bl := by rintro (e | e) <;> omega
              have hElD : EvsL wD bl t.size (spX A t) := HLs.out.1.keep HDs.out.2.2.2 nbl
              have hbD : Below W1.heap.size W1 wD := HX.out.2.2.2.1.trans ((HLs.out.2.2.2.trans HDs.out.2.2.2).toBelow HX.out.2.2.2.1.size (by rintro k (rfl | rfl); exact hl2; exact hl4))
              have hKBD : KBx wD W.heap.size kt ks kq := (hbD.block _ (by have := HK1.out.2.2.1; omega)).trans HK1.out.1
              obtain ⟨k0, k1, k2⟩ := hKBD.cells
              have HSK := seek_any bl t.size t.size (spX A t) kt ks kq wD hElD HDs.out.2.2.1.n1.2.2 (spX_srt HDs.out.2.2.1)
              have HZ : Hid (EvsL wD bl t.size (spX A t) ∧ Below W1.heap.size W1 wD ∧ KBx wD W.heap.size kt ks kq ∧ (¬ S2 qb g6 bl) ∧ wr.heap.size ≤ wL.heap.size ∧ wL.heap.size ≤ wD.heap.size) := ⟨hElD, hbD, hKBD, nbl, hs1, hs2⟩
              clear hElD hbD hKBD nbl hs1 hs2 hl1 hl2 hl3 hl4 hblr
              go_upto_region 19 with (go_at_call 19; (with_reducible refine HSK.mono ?_); rintro e wS ⟨i9, th, rfl, hth, hbS, hin, hi9N, _, _⟩; have HSS : Hid ((th = true ↔ ∃ j, j < t.size ∧ cmpE kt ks kq (spX A t j) = 0) ∧ Below wD.heap.size wD wS ∧ (th = true → i9 < t.size ∧ cmpE kt ks kq (spX A t i9) = 0)) := ⟨hth, hbS, hin⟩; clear hth hbS hin hi9N)
              clear HSK k0 k1 k2
              have hth : th = true := HSS.out.1.2 (by
                have hq := HX.out.2.2.2.2.2.2.2.2
                obtain ⟨l, r, e⟩ := hq.rootT HX.out.1
                have hrt : root ∈ t.ps := by rw [e]; simp [Tr.ps]
                rw [← Tr.spots_ps t 0] at hrt
                obtain ⟨x, hx, e2⟩ := List.mem_map.1 hrt
                obtain ⟨j, hj, e3⟩ := List.getElem_of_mem hx
                refine ⟨j, by rw [spots_len] at hj; exact hj, ?_⟩
                unfold spX
                rw [List.getD_eq_getElem?_getD, List.getElem?_eq_getElem hj, e3]
                show cmpE kt ks kq (A.E x.1) = 0
                rw [e2]
                exact HX.out.2.1)
              subst hth
              obtain ⟨hi9, hx9⟩ := HSS.out.2.2 rfl
              obtain ⟨hXe, hde⟩ := HX.out.2.2.2.2.2.2.2.2.atRoot HX.out.1 HX.out.2.1 hi9 hx9
              have dg : decide ((t.size : Int) ≤ (i9 : Int)) = false := by simp; omega
              have j0 : (0 : Int) ≤ (i9 : Int) := by omega
              have j1 : (i9 : Int) < (t.size : Int) := by omega
              have cD : wS.cell? ⟨bd, i9, none⟩ = some (.int .i64 0) := (cell_below (a := ⟨bd, i9, none⟩) HSS.out.2.1 HDs.out.1.1).trans ((HDs.out.1.2 i9 hi9).trans (congrArg some hde))
              have hqS : QI wS W1.heap.size qb g6 c6 n6 A t fl6 root room work := by
                have hb := HSS.out.2.1
                have hq := HDs.out.2.2.1
                exact ⟨hq.q.later hb, hq.ti, hq.fr, hq.nd, hq.inr, hq.cnt, hq.z, hq.nr, hq.rm, hq.srt, hq.wk⟩
              have hElS : EvsL wS bl t.size (spX A t) := HZ.out.1.later HSS.out.2.1
              have hbSW : Below W1.heap.size W1 wS := HZ.out.2.1.trans (HSS.out.2.1.mono HZ.out.2.1.size)
              have hKBS : KBx wS W.heap.size kt ks kq := (HSS.out.2.1.block _ (lt_of_block HZ.out.2.2.1)).trans HZ.out.2.2.1
              obtain ⟨k0, k1, k2⟩ := hKBS.cells
              have HWK := workQ wS hqS
              have HFR := findRoot kt ks kq wS hqS HX.out.1 HX.out.2.1 (by have h8 := HX.out.2.2.1; have h9 := HX.out.2.2.2.2.2.2.1; have h7 := HX.out.2.2.2.2.2.2.2.1; omega)
              unfold evV at HFR
              have HSx : Hid (QI wS W1.heap.size qb g6 c6 n6 A t fl6 root room work ∧ EvsL wS bl t.size (spX A t) ∧ Below W1.heap.size W1 wS ∧ KBx wS W.heap.size kt ks kq ∧ spX A t i9 = A.E root ∧ i9 < t.size ∧ wD.heap.size ≤ wS.heap.size) := ⟨hqS, hElS, hbSW, hKBS, hXe, hi9, HSS.out.2.1.size⟩
              clear hqS hElS hbSW hKBS hXe hde hi9 hx9 HSS HDs
              go_upto_region 23 with (first | (go_at_call 20; (with_reducible refine HWK.mono ?_); rintro e w9 ⟨rfl, h9⟩; subst h9) | (go_at_call 21; (with_reducible refine HFR.mono ?_); rintro e wF ⟨rfl, AF, hqF, hEF, hCF⟩; have HFs : Hid (QI wF W1.heap.size qb g6 c6 n6 AF t fl6 root room work ∧ AF.E = A.E ∧ Ch (S2 qb g6) w9 wF) := ⟨hqF, hEF, hCF⟩; clear hqF hEF hCF))
              clear HWK HFR k0 k1 k2 cD dg
              obtain ⟨wG, hwG⟩ : ∃ wG, wF.alloc (.cells #[.int .u64 (A.E root).t, .int .i64 (A.E root).s, .int .u64 (A.E root).q, .int .i64 (A.E root).d, .int .i64 (A.E root).k, .int .i64 (A.E root).v] 33) = wG := ⟨_, rfl⟩
              rw [hwG]
              have hbG : Below wF.heap.size wF wG := by rw [← hwG]; exact (Below.refl _ wF).alloc (Nat.le_refl _) _
              have haG : wG.heap[wF.heap.size]? = some (.cells #[.int .u64 (A.E root).t, .int .i64 (A.E root).s, .int .u64 (A.E root).q, .int .i64 (A.E root).d, .int .i64 (A.E root).k, .int .i64 (A.E root).v] 33 (0, 0)) := by rw [← hwG]; exact World.alloc_heap_new wF _
              have hsF := HFs.out.2.2.size
              have hsG := hbG.size
              have hElG : EvsL wG bl t.size (spX A t) := (HSx.out.2.1.keep HFs.out.2.2 HZ.out.2.2.2.1).later hbG
              have hbGW : Below W1.heap.size W1 wG := by
                have h8 := HX.out.2.2.2.2.1
                have h9 := HSx.out.2.2.1.trans (HFs.out.2.2.toBelow HSx.out.2.2.1.size (by rintro k (rfl | rfl); exact h8.1.2; exact h8.2.2))
                exact h9.trans (hbG.mono h9.size)
              have hqG := HFs.out.1.later hbG
              obtain ⟨a0, a1, a2, a3, a4, a5⟩ := q6c haG
              obtain ⟨x0, x1, x2, x3, x4, x5⟩ := hElG.at HSx.out.2.2.2.2.2.1
              rw [HSx.out.2.2.2.2.1] at x0 x1 x2 x3 x4 x5
              have ne1 := neq_ev9 (A.E root)
              have HG : Hid (EvsL wG bl t.size (spX A t) ∧ Below W1.heap.size W1 wG ∧ QI wG W1.heap.size qb g6 c6 n6 AF t fl6 root room work ∧ wG.heap[wF.heap.size]? = some (.cells #[.int .u64 (A.E root).t, .int .i64 (A.E root).s, .int .u64 (A.E root).q, .int .i64 (A.E root).d, .int .i64 (A.E root).k, .int .i64 (A.E root).v] 33 (0, 0)) ∧ wF.heap.size < wG.heap.size ∧ wr.heap.size ≤ wF.heap.size) := ⟨hElG, hbGW, hqG, haG, lt_of_block haG, by have h7 := HZ.out.2.2.2.2; have h6 := HLs.out.2.2.2.size; have h5 := HSx.out.2.2.2.2.2.2; omega⟩
              clear hElG hbGW hqG haG hsF hsG hbG hwG
              go_quiet ((go_at_call 20; refine Calls.quiet_of_same (workQ _ (HG.out.2.2.1.later (below_drewNq _ _ _)))))
              generalize hwH : World.drewN wG _ = wH
              have hbH : Below wG.heap.size wG wH := by rw [← hwH]; exact below_drewNq _ _ _
              clear hwH a0 a1 a2 a3 a4 a5 x0 x1 x2 x3 x4 x5
              have htn : t ≠ .nil := fun e => by have := HX.out.2.2.2.2.2.1; rw [e] at this; exact Nat.lt_irrefl _ this
              have hwk9 : work ≤ 4611686018427387904 := by have h8 := HX.out.2.2.1; have h9 := HX.out.2.2.2.2.2.2.1; have h7 := HX.out.2.2.2.2.2.2.2.1; omega
              have HM := min_any _ _ _ _ _ _ _ _ _ _ _ wH (HG.out.2.2.1.later hbH) htn hwk9
              have hk9 := openT_k _ side_sdL t.size t (Nat.le_refl _)
              have hsz9 := HG.out.2.2.1.n1.2.2
              obtain ⟨mm, hmm⟩ : ∃ mm, (openT sdL t).m = mm := ⟨_, rfl⟩
              obtain ⟨tb, htb⟩ : ∃ tb, (openT sdL t).b = tb := ⟨_, rfl⟩
              obtain ⟨kk, hkk⟩ : ∃ kk, (openT sdL t).k = kk := ⟨_, rfl⟩
              rw [hmm, htb, hkk] at HM
              rw [hkk] at hk9
              unfold evV at HM
              have HKK : Hid (kk ≤ 8192 ∧ Below wG.heap.size wG wH) := ⟨by omega, hbH⟩
              clear hmm htb hkk htn hwk9 hk9 hsz9 hbH
              go_upto_region 26 with (go_at_call 22; (with_reducible refine HM.mono ?_); rintro e wM ⟨AM, rfl, hqM, hpsM, hEM, hCM⟩; have HMs : Hid (QI wM W1.heap.size qb g6 c6 n6 AM (.node .nil mm tb) fl6 mm room (work + kk) ∧ t.ps = mm :: tb.ps ∧ AM.E = AF.E ∧ Ch (S2 qb g6) wH wM) := ⟨hqM, hpsM, hEM, hCM⟩; clear hqM hpsM hEM hCM)
              clear HM
              obtain ⟨wN, hwN⟩ : ∃ wN, wM.alloc (.cells #[.int .u64 (AF.E mm).t, .int .i64 (AF.E mm).s, .int .u64 (AF.E mm).q, .int .i64 (AF.E mm).d, .int .i64 (AF.E mm).k, .int .i64 (AF.E mm).v] 33) = wN := ⟨_, rfl⟩
              rw [hwN]
              have hbN : Below wM.heap.size wM wN := by rw [← hwN]; exact (Below.refl _ wM).alloc (Nat.le_refl _) _
              have haN : wN.heap[wM.heap.size]? = some (.cells #[.int .u64 (AF.E mm).t, .int .i64 (AF.E mm).s, .int .u64 (AF.E mm).q, .int .i64 (AF.E mm).d, .int .i64 (AF.E mm).k, .int .i64 (AF.E mm).v] 33 (0, 0)) := by rw [← hwN]; exact World.alloc_heap_new wM _
              have HNs : Hid (QI wN W1.heap.size qb g6 c6 n6 AM (.node .nil mm tb) fl6 mm room (work + kk) ∧ wN.heap[wM.heap.size]? = some (.cells #[.int .u64 (AF.E mm).t, .int .i64 (AF.E mm).s, .int .u64 (AF.E mm).q, .int .i64 (AF.E mm).d, .int .i64 (AF.E mm).k, .int .i64 (AF.E mm).v] 33 (0, 0)) ∧ Below wM.heap.size wM wN) := ⟨HMs.out.1.later hbN, haN, hbN⟩
              have HD2 := depthsQ wN HNs.out.1 (by simp [Tr.size])
              clear hwN hbN haN
              obtain ⟨z2, hz2⟩ : ∃ z2, (Tr.node .nil mm tb).size = z2 := ⟨_, rfl⟩
              rw [hz2] at HD2
              have hz3 : 0 < z2 := by rw [← hz2]; simp [Tr.size]
              go_upto_region 27 with (go_at_call 18; (with_reducible refine HD2.mono ?_); rintro e wE ⟨be, ce, rfl, hEe, hbe, hqE, hCE⟩; have HEs : Hid ((be < wE.heap.size ∧ ∀ i, i < z2 → wE.cell? ⟨be, i, none⟩ = some (dpF ((Tr.node .nil mm tb).spots 0) i)) ∧ QI wE W1.heap.size qb g6 c6 n6 AM (.node .nil mm tb) fl6 mm room (work + kk) ∧ Ch (S2 qb g6) wN wE) := ⟨hEe, hqE, hCE⟩; clear hEe hbe hqE hCE)
              clear HD2 hz2
              have hls := HX.out.2.2.2.2.1
              have hsz1 := HG.out.2.2.2.2.1
              have hsz2 := HG.out.2.2.2.2.2
              have hsz3 := HKK.out.2.size
              have hsz4 := HMs.out.2.2.2.size
              have hsz5 := HNs.out.2.2.size
              have hsz6 := HEs.out.2.2.size
              have hEE : EvsL wE bl t.size (spX A t) := ((((HG.out.1.later HKK.out.2).keep HMs.out.2.2.2 HZ.out.2.2.2.1).later HNs.out.2.2).keep HEs.out.2.2 HZ.out.2.2.2.1)
              have hbEW : Below W1.heap.size W1 wE := by
                have b1 := HG.out.2.1.trans (HKK.out.2.mono HG.out.2.1.size)
                have b2 := b1.trans (HMs.out.2.2.2.toBelow b1.size (by rintro k (rfl | rfl); exact hls.1.2; exact hls.2.2))
                have b3 := b2.trans (HNs.out.2.2.mono b2.size)
                exact b3.trans (HEs.out.2.2.toBelow b3.size (by rintro k (rfl | rfl); exact hls.1.2; exact hls.2.2))
              have haE : wE.heap[wF.heap.size]? = some (.cells #[.int .u64 (A.E root).t, .int .i64 (A.E root).s, .int .u64 (A.E root).q, .int .i64 (A.E root).d, .int .i64 (A.E root).k, .int .i64 (A.E root).v] 33 (0, 0)) := (HEs.out.2.2.block _ (by omega) (by rintro (e | e) <;> omega)).trans ((HNs.out.2.2.block _ (by omega)).trans ((HMs.out.2.2.2.block _ (by omega) (by rintro (e | e) <;> omega)).trans ((HKK.out.2.block _ (by omega)).trans HG.out.2.2.2.1)))
              have hmE : wE.heap[wM.heap.size]? = some (.cells #[.int .u64 (AF.E mm).t, .int .i64 (AF.E mm).s, .int .u64 (AF.E mm).q, .int .i64 (AF.E mm).d, .int .i64 (AF.E mm).k, .int .i64 (AF.E mm).v] 33 (0, 0)) := (HEs.out.2.2.block _ (lt_of_block HNs.out.2.1) (by rintro (e | e) <;> omega)).trans HNs.out.2.1
              have hX0 : spX A t 0 = AF.E mm := by rw [HFs.out.2.1]; exact spX0 A HMs.out.2.1
              obtain ⟨m0, m1, m2, m3, m4, m5⟩ := q6c hmE
              obtain ⟨x0, x1, x2, x3, x4, x5⟩ := hEE.at HX.out.2.2.2.2.2.1
              rw [hX0] at x0 x1 x2 x3 x4 x5
              simp only [Nat.zero_mul, Nat.zero_add] at x0 x1 x2 x3 x4 x5
              have cE : wE.cell? ⟨be, 0, none⟩ = some (.int .i64 0) := HEs.out.1.2 0 hz3
              have ne2 := neq_ev9 (AF.E mm)
              have lz : ((z2 : Int) == 0) = false := by simp; omega
              have lz2 : (0 : Int) < (z2 : Int) := by omega
              have lt0 : (0 : Int) < (t.size : Int) := by have := HX.out.2.2.2.2.2.1; omega
              have HE9 : Hid (EvsL wE bl t.size (spX A t) ∧ Below W1.heap.size W1 wE ∧ wE.heap[wF.heap.size]? = some (.cells #[.int .u64 (A.E root).t, .int .i64 (A.E root).s, .int .u64 (A.E root).q, .int .i64 (A.E root).d, .int .i64 (A.E root).k, .int .i64 (A.E root).v] 33 (0, 0)) ∧ wF.heap.size < wE.heap.size ∧ wr.heap.size ≤ wF.heap.size) := ⟨hEE, hbEW, haE, by omega, hsz2⟩
              clear hEE hbEW haE hmE hX0 hsz1 hsz2 hsz3 hsz4 hsz5 hsz6 hls
              go_quiet (fail)
              generalize hwP : World.drewN wE _ = wP
              have hbP : Below wE.heap.size wE wP := by rw [← hwP]; exact below_drewNq _ _ _
              clear hwP m0 m1 m2 m3 m4 m5 x0 x1 x2 x3 x4 x5 cE ne2 lz lz2 lt0
              have hEAM : AM.E root = A.E root := by rw [HMs.out.2.2.1, HFs.out.2.1]
              have hrt : root ∈ (Tr.node .nil mm tb).ps := by
                show root ∈ [] ++ mm :: tb.ps
                rw [List.nil_append, ← HMs.out.2.1]
                obtain ⟨l, r, e⟩ := HX.out.2.2.2.2.2.2.2.2.rootT HX.out.1
                rw [e]
                simp [Tr.ps]
              have hbPW : Below W1.heap.size W1 wP := HE9.out.2.1.trans (hbP.mono HE9.out.2.1.size)
              have hKBP : KBx wP W.heap.size kt ks kq := (hbPW.block _ (by have := HK1.out.2.2.1; omega)).trans HK1.out.1
              obtain ⟨k0, k1, k2⟩ := hKBP.cells
              have HF2 := findThere kt ks kq wP (HEs.out.2.1.later hbP) hrt (by rw [hEAM]; exact HX.out.2.1) (by have h8 := HX.out.2.2.1; have h9 := HX.out.2.2.2.2.2.2.1; have h7 := HX.out.2.2.2.2.2.2.2.1; have h6 := HKK.out.1; omega)
              rw [hEAM] at HF2
              unfold evV at HF2
              have HP9 : Hid (EvsL wP bl t.size (spX A t) ∧ Below W1.heap.size W1 wP ∧ wP.heap[wF.heap.size]? = some (.cells #[.int .u64 (A.E root).t, .int .i64 (A.E root).s, .int .u64 (A.E root).q, .int .i64 (A.E root).d, .int .i64 (A.E root).k, .int .i64 (A.E root).v] 33 (0, 0)) ∧ wF.heap.size < wP.heap.size ∧ wr.heap.size ≤ wF.heap.size ∧ AM.E root = A.E root ∧ bl < wF.heap.size) := ⟨HE9.out.1.later hbP, hbPW, (hbP.block _ HE9.out.2.2.2.1).trans HE9.out.2.2.1, by have := hbP.size; have := HE9.out.2.2.2.1; omega, HE9.out.2.2.2.2, hEAM, by have h1 := HLs.out.1.1; have h2 := HZ.out.2.2.2.2.2; have h3 := HSx.out.2.2.2.2.2.2; have h4 := HFs.out.2.2.size; omega⟩
              clear hbP hEAM hrt hbPW hKBP
              have hls := HX.out.2.2.2.2.1
              have h9w := HP9.out.2.2.2.2.1
              go_upto_region 30 with (go_at_call 21; (with_reducible refine HF2.mono ?_); rintro e wQ ⟨rfl, AQ, tQ, wkQ, hqQ, hr0, hEQ, hwQ, hCQ⟩; have haQ : wQ.heap[wF.heap.size]? = some (.cells #[.int .u64 (A.E root).t, .int .i64 (A.E root).s, .int .u64 (A.E root).q, .int .i64 (A.E root).d, .int .i64 (A.E root).k, .int .i64 (A.E root).v] 33 (0, 0)) := (hCQ.block _ HP9.out.2.2.2.1 (by rintro (e | e) <;> omega)).trans HP9.out.2.2.1; obtain ⟨r0, r1, r2, r3, r4, r5⟩ := q6c haQ; have rf := frz haQ; have rf0 := rf 0; have rf1 := rf 1; have rf2 := rf 2; have rf3 := rf 3; have rf4 := rf 4; have rf5 := rf 5; clear rf; have HQs : Hid (QI wQ W1.heap.size qb g6 c6 n6 AQ tQ fl6 root room wkQ ∧ AQ.E = AM.E ∧ wkQ ≤ work + kk + 8192 ∧ Ch (S2 qb g6) wP wQ ∧ wQ.heap[wF.heap.size]? = some (.cells #[.int .u64 (A.E root).t, .int .i64 (A.E root).s, .int .u64 (A.E root).q, .int .i64 (A.E root).d, .int .i64 (A.E root).k, .int .i64 (A.E root).v] 33 (0, 0))) := ⟨hqQ, hEQ, hwQ, hCQ, haQ⟩; clear hqQ hEQ hwQ hCQ haQ)
              generalize hWF : (World.setCell (World.setCell (World.setCell (World.setCell (World.setCell (World.setCell wQ _ _) _ _) _ _) _ _) _ _) _ _) = wY
              obtain ⟨p1, p2, p3⟩ := put6 HQs.out.2.2.2.2 _ _ _ _ _ _ wY hWF
              have hsQ := HQs.out.2.2.2.1.size
              have hbl9 := HP9.out.2.2.2.2.2.2
              have hqY : QI wY W1.heap.size qb g6 c6 n6 AQ tQ fl6 root room wkQ := HQs.out.1.far (p2 qb (by omega)) (p2 g6 (by omega))
              have hEQ9 : EvsL wQ bl t.size (spX A t) := HP9.out.1.keep HQs.out.2.2.2.1 HZ.out.2.2.2.1
              have hEY : EvsL wY bl t.size (spX A t) := ⟨by have h1 := (p3 0 _ (Below.refl 0 _) (Nat.zero_le _)).size; have h2 := hEQ9.1; omega, fun i9 r9 hi9 hr9 => (World.cell?_of_block (p2 bl (by omega))).trans (hEQ9.2 i9 r9 hi9 hr9)⟩
              have hbQW : Below W1.heap.size W1 wQ := HP9.out.2.1.trans (HQs.out.2.2.2.1.toBelow HP9.out.2.1.size (by rintro k (rfl | rfl); exact hls.1.2; exact hls.2.2))
              have hbYW : Below W1.heap.size W1 wY := p3 _ _ hbQW (by omega)
              obtain ⟨d0, d1, d2, d3, d4, d5⟩ := q6c p1
              obtain ⟨x0, x1, x2, x3, x4, x5⟩ := hEY.at HSx.out.2.2.2.2.2.1
              rw [HSx.out.2.2.2.2.1] at x0 x1 x2 x3 x4 x5
              have HY : Hid (QI wY W1.heap.size qb g6 c6 n6 AQ tQ fl6 root room wkQ ∧ Below W1.heap.size W1 wY) := ⟨hqY, hbYW⟩
              clear hqY hEQ9 hEY hbQW hbYW p1 p2 p3 hWF hsQ hbl9 r0 r1 r2 r3 r4 r5 rf0 rf1 rf2 rf3 rf4 rf5 k0 k1 k2 HF2 hls h9w
              go_quiet (fail)
              go_wp2_with fail
              have hlt := HX.out.2.2.2.2.2.2.2.1
              refine ⟨⟨v + 1, AQ, tQ, root, wkQ, rfl, by omega, HY.out.1.later (below_drewNq _ _ _), HX.out.1, ?_, ?_, HY.out.2.trans (below_drewNq _ _ _)⟩, ?_⟩
              · rw [HQs.out.2.1, HP9.out.2.2.2.2.2.1]
                exact HX.out.2.1
              · have h8 := HX.out.2.2.1
                have h7 := HKK.out.1
                have h6 := HQs.out.2.2.1
                omega
              · exact meas hlt
            · have dl : decide ((v : Int) < 2) = false := by simp; omega
              go_wp2_with fail
              go_ret
              exact ⟨rfl, HK1.out.2.1.trans (hbr.mono HK1.out.2.1.size)⟩
      · have ds : ((L.length : Int) == room) = false := by simpa using hfull
        have HFULL : Hid ((L.length : Int) ≠ room) := hfull
        clear hfull
        go_upto_region 10 with (go_at_call 17; (with_reducible refine HS.mono ?_); rintro e w4 ⟨rfl, h9⟩; subst h9)
        obtain ⟨w5, hw5⟩ : ∃ w5, w5 = w4 := ⟨_, rfl⟩
        rw [← hw5]
        have HQ5 : Hid (QS W1.heap.size qb g room (16384 * (i : Int) + 16384) L w5 ∧ (L.length : Int) ≠ room ∧ Below W1.heap.size W1 w5) := ⟨by rw [hw5]; exact HQ0.out.1.up (by omega), HFULL.out, by rw [hw5]; exact HQ0.out.2⟩
        clear hw5
        clear HS HQ0 ds dl hlt HFULL hl2
        have hKB5 : KBx w5 W.heap.size kt ks kq := (HQ5.out.2.2.block _ (by have := HK1.out.2.2.1; omega)).trans HK1.out.1
        obtain ⟨k0, k1, k2⟩ := hKB5.cells
        have HI := ins_root ⟨kt, ks, kq, 0, 0, 77⟩ w5 HQ5.out.1 (by have := HK1.out.2.2.2.2.1; omega) HQ5.out.2.1
        unfold evV at HI
        go_upto_region 11 with (go_at_call 12; (with_reducible refine HI.mono ?_); rintro e w6 ⟨code, g6, c6, n6, A6, t6, fl6, r6, wk6, rfl, hcode, hq6, hr6, hk6, hw6, hg6, hC6⟩; have HQ6 : Hid (QI w6 W1.heap.size qb g6 c6 n6 A6 t6 fl6 r6 room wk6 ∧ r6 ≠ 0 ∧ cmpE kt ks kq (A6.E r6) = 0 ∧ wk6 ≤ 16384 * (i : Int) + 16384 + 8192 ∧ Below W1.heap.size W1 w6) := ⟨hq6, hr6, hk6, hw6, HQ5.out.2.2.trans (hC6.toBelow HQ5.out.2.2.size (by have h9 := HQ5.out.1.lt; rintro k (rfl | rfl); exact h9.1.2; exact h9.2.2))⟩; clear hq6 hr6 hk6 hw6 hg6 hC6)
        clear HI k0 k1 k2 hKB5
        rcases hcode with hcode | hcode
        all_goals
          subst hcode
          go_wp2_with fail
          go_loopw [11] (fun x wr => ∃ (v : Nat) (A : Ar) (t : Tr) (root : Nat) (work : Int), x = .int .i64 (v : Int) ∧ v ≤ 2 ∧ QI wr W1.heap.size qb g6 c6 n6 A t fl6 root room work ∧ root ≠ 0 ∧ cmpE kt ks kq (A.E root) = 0 ∧ work ≤ 16384 * (i : Int) + 16384 + 8192 + 16384 * (v : Int) ∧ Below W1.heap.size W1 wr) (fun x _ => 2 - (intOf x).toNat)
          case atStart => exact ⟨0, A6, t6, r6, wk6, rfl, Nat.zero_le _, HQ6.out.1, HQ6.out.2.1, HQ6.out.2.2.1, by have := HQ6.out.2.2.2.1; omega, HQ6.out.2.2.2.2⟩
          case round =>
            obtain ⟨v, A, t, root, work, rfl, hv, hq, hr, hkr, hwk, hbr⟩ := hrel
            clear HQ6 HQ5
            by_cases hlt : v < 2
            · have dl : decide ((v : Int) < 2) = true := by simp; omega
              have ev : IntKind.i64.wrap ((v : Int) + 1) = (v : Int) + 1 := by rw [IntKind.wrap_i64]; omega
              have hls := hq.q.lt
              have hts : 0 < t.size := by obtain ⟨l, r, rfl⟩ := hq.rootT hr; simp [Tr.size]
              have hNN := HK1.out.2.2.2.2.1
              have HL := listQ wr hq
              have HX : Hid (root ≠ 0 ∧ cmpE kt ks kq (A.E root) = 0 ∧ work ≤ 16384 * (i : Int) + 16384 + 8192 + 16384 * (v : Int) ∧ Below W1.heap.size W1 wr ∧ ((qb < wr.heap.size ∧ W1.heap.size ≤ qb) ∧ g6 < wr.heap.size ∧ W1.heap.size ≤ g6) ∧ 0 < t.size ∧ i ≤ 3000000000000 ∧ v < 2 ∧ QI wr W1.heap.size qb g6 c6 n6 A t fl6 root room work) := ⟨hr, hkr, hwk, hbr, hls, hts, hNN, hlt, hq⟩
              clear hr hkr hwk hbr hls hts hNN hlt hq hv
              go_upto_region 17 with (go_at_call 9; (with_reducible refine HL.mono ?_); rintro e wL ⟨bl, rfl, hEl, hbl, hqL, hCL⟩; have HLs : Hid (EvsL wL bl t.size (spX A t) ∧ wr.heap.size ≤ bl ∧ QI wL W1.heap.size qb g6 c6 n6 A t fl6 root room work ∧ Ch (S2 qb g6) wr wL) := ⟨hEl, hbl, hqL, hCL⟩; clear hEl hbl hqL hCL)
              have HD := depthsQ wL HLs.out.2.2.1 HX.out.2.2.2.2.2.1
              clear HL
              go_upto_region 18 with (go_at_call 18; (with_reducible refine HD.mono ?_); rintro e wD ⟨bd, cd, rfl, hEd, hbd, hqD, hCD⟩; have HDs : Hid ((bd < wD.heap.size ∧ ∀ i, i < t.size → wD.cell? ⟨bd, i, none⟩ = some (dpF (t.spots 0) i)) ∧ wL.heap.size ≤ bd ∧ QI wD W1.heap.size qb g6 c6 n6 A t fl6 root room work ∧ Ch (S2 qb g6) wL wD) := ⟨hEd, hbd, hqD, hCD⟩; clear hEd hbd hqD hCD)
              clear HD
              have hs1 := HLs.out.2.2.2.size
              have hs2 := HDs.out.2.2.2.size
              obtain ⟨⟨hl1, hl2⟩, hl3, hl4⟩ := HX.out.2.2.2.2.1
              have hblr := HLs.out.2.1
              have nbl : ¬ S2 qb g6 bl := by rintro (e | e) <;> omega
              have hElD : EvsL wD bl t.size (spX A t) := HLs.out.1.keep HDs.out.2.2.2 nbl
              have hbD : Below W1.heap.size W1 wD := HX.out.2.2.2.1.trans ((HLs.out.2.2.2.trans HDs.out.2.2.2).toBelow HX.out.2.2.2.1.size (by rintro k (rfl | rfl); exact hl2; exact hl4))
              have hKBD : KBx wD W.heap.size kt ks kq := (hbD.block _ (by have := HK1.out.2.2.1; omega)).trans HK1.out.1
              obtain ⟨k0, k1, k2⟩ := hKBD.cells
              have HSK := seek_any bl t.size t.size (spX A t) kt ks kq wD hElD HDs.out.2.2.1.n1.2.2 (spX_srt HDs.out.2.2.1)
              have HZ : Hid (EvsL wD bl t.size (spX A t) ∧ Below W1.heap.size W1 wD ∧ KBx wD W.heap.size kt ks kq ∧ (¬ S2 qb g6 bl) ∧ wr.heap.size ≤ wL.heap.size ∧ wL.heap.size ≤ wD.heap.size) := ⟨hElD, hbD, hKBD, nbl, hs1, hs2⟩
              clear hElD hbD hKBD nbl hs1 hs2 hl1 hl2 hl3 hl4 hblr
              go_upto_region 19 with (go_at_call 19; (with_reducible refine HSK.mono ?_); rintro e wS ⟨i9, th, rfl, hth, hbS, hin, hi9N, _, _⟩; have HSS : Hid ((th = true ↔ ∃ j, j < t.size ∧ cmpE kt ks kq (spX A t j) = 0) ∧ Below wD.heap.size wD wS ∧ (th = true → i9 < t.size ∧ cmpE kt ks kq (spX A t i9) = 0)) := ⟨hth, hbS, hin⟩; clear hth hbS hin hi9N)
              clear HSK k0 k1 k2
              have hth : th = true := HSS.out.1.2 (by
                have hq := HX.out.2.2.2.2.2.2.2.2
                obtain ⟨l, r, e⟩ := hq.rootT HX.out.1
                have hrt : root ∈ t.ps := by rw [e]; simp [Tr.ps]
                rw [← Tr.spots_ps t 0] at hrt
                obtain ⟨x, hx, e2⟩ := List.mem_map.1 hrt
                obtain ⟨j, hj, e3⟩ := List.getElem_of_mem hx
                refine ⟨j, by rw [spots_len] at hj; exact hj, ?_⟩
                unfold spX
                rw [List.getD_eq_getElem?_getD, List.getElem?_eq_getElem hj, e3]
                show cmpE kt ks kq (A.E x.1) = 0
                rw [e2]
                exact HX.out.2.1)
              subst hth
              obtain ⟨hi9, hx9⟩ := HSS.out.2.2 rfl
              obtain ⟨hXe, hde⟩ := HX.out.2.2.2.2.2.2.2.2.atRoot HX.out.1 HX.out.2.1 hi9 hx9
              have dg : decide ((t.size : Int) ≤ (i9 : Int)) = false := by simp; omega
              have j0 : (0 : Int) ≤ (i9 : Int) := by omega
              have j1 : (i9 : Int) < (t.size : Int) := by omega
              have cD : wS.cell? ⟨bd, i9, none⟩ = some (.int .i64 0) := (cell_below (a := ⟨bd, i9, none⟩) HSS.out.2.1 HDs.out.1.1).trans ((HDs.out.1.2 i9 hi9).trans (congrArg some hde))
              have hqS : QI wS W1.heap.size qb g6 c6 n6 A t fl6 root room work := by
                have hb := HSS.out.2.1
                have hq := HDs.out.2.2.1
                exact ⟨hq.q.later hb, hq.ti, hq.fr, hq.nd, hq.inr, hq.cnt, hq.z, hq.nr, hq.rm, hq.srt, hq.wk⟩
              have hElS : EvsL wS bl t.size (spX A t) := HZ.out.1.later HSS.out.2.1
              have hbSW : Below W1.heap.size W1 wS := HZ.out.2.1.trans (HSS.out.2.1.mono HZ.out.2.1.size)
              have hKBS : KBx wS W.heap.size kt ks kq := (HSS.out.2.1.block _ (lt_of_block HZ.out.2.2.1)).trans HZ.out.2.2.1
              obtain ⟨k0, k1, k2⟩ := hKBS.cells
              have HWK := workQ wS hqS
              have HFR := findRoot kt ks kq wS hqS HX.out.1 HX.out.2.1 (by have h8 := HX.out.2.2.1; have h9 := HX.out.2.2.2.2.2.2.1; have h7 := HX.out.2.2.2.2.2.2.2.1; omega)
              unfold evV at HFR
              have HSx : Hid (QI wS W1.heap.size qb g6 c6 n6 A t fl6 root room work ∧ EvsL wS bl t.size (spX A t) ∧ Below W1.heap.size W1 wS ∧ KBx wS W.heap.size kt ks kq ∧ spX A t i9 = A.E root ∧ i9 < t.size ∧ wD.heap.size ≤ wS.heap.size) := ⟨hqS, hElS, hbSW, hKBS, hXe, hi9, HSS.out.2.1.size⟩
              clear hqS hElS hbSW hKBS hXe hde hi9 hx9 HSS HDs
              go_upto_region 23 with (first | (go_at_call 20; (with_reducible refine HWK.mono ?_); rintro e w9 ⟨rfl, h9⟩; subst h9) | (go_at_call 21; (with_reducible refine HFR.mono ?_); rintro e wF ⟨rfl, AF, hqF, hEF, hCF⟩; have HFs : Hid (QI wF W1.heap.size qb g6 c6 n6 AF t fl6 root room work ∧ AF.E = A.E ∧ Ch (S2 qb g6) w9 wF) := ⟨hqF, hEF, hCF⟩; clear hqF hEF hCF))
              clear HWK HFR k0 k1 k2 cD dg
              obtain ⟨wG, hwG⟩ : ∃ wG, wF.alloc (.cells #[.int .u64 (A.E root).t, .int .i64 (A.E root).s, .int .u64 (A.E root).q, .int .i64 (A.E root).d, .int .i64 (A.E root).k, .int .i64 (A.E root).v] 33) = wG := ⟨_, rfl⟩
              rw [hwG]
              have hbG : Below wF.heap.size wF wG := by rw [← hwG]; exact (Below.refl _ wF).alloc (Nat.le_refl _) _
              have haG : wG.heap[wF.heap.size]? = some (.cells #[.int .u64 (A.E root).t, .int .i64 (A.E root).s, .int .u64 (A.E root).q, .int .i64 (A.E root).d, .int .i64 (A.E root).k, .int .i64 (A.E root).v] 33 (0, 0)) := by rw [← hwG]; exact World.alloc_heap_new wF _
              have hsF := HFs.out.2.2.size
              have hsG := hbG.size
              have hElG : EvsL wG bl t.size (spX A t) := (HSx.out.2.1.keep HFs.out.2.2 HZ.out.2.2.2.1).later hbG
              have hbGW : Below W1.heap.size W1 wG := by
                have h8 := HX.out.2.2.2.2.1
                have h9 := HSx.out.2.2.1.trans (HFs.out.2.2.toBelow HSx.out.2.2.1.size (by rintro k (rfl | rfl); exact h8.1.2; exact h8.2.2))
                exact h9.trans (hbG.mono h9.size)
              have hqG := HFs.out.1.later hbG
              obtain ⟨a0, a1, a2, a3, a4, a5⟩ := q6c haG
              obtain ⟨x0, x1, x2, x3, x4, x5⟩ := hElG.at HSx.out.2.2.2.2.2.1
              rw [HSx.out.2.2.2.2.1] at x0 x1 x2 x3 x4 x5
              have ne1 := neq_ev9 (A.E root)
              have HG : Hid (EvsL wG bl t.size (spX A t) ∧ Below W1.heap.size W1 wG ∧ QI wG W1.heap.size qb g6 c6 n6 AF t fl6 root room work ∧ wG.heap[wF.heap.size]? = some (.cells #[.int .u64 (A.E root).t, .int .i64 (A.E root).s, .int .u64 (A.E root).q, .int .i64 (A.E root).d, .int .i64 (A.E root).k, .int .i64 (A.E root).v] 33 (0, 0)) ∧ wF.heap.size < wG.heap.size ∧ wr.heap.size ≤ wF.heap.size) := ⟨hElG, hbGW, hqG, haG, lt_of_block haG, by have h7 := HZ.out.2.2.2.2; have h6 := HLs.out.2.2.2.size; have h5 := HSx.out.2.2.2.2.2.2; omega⟩
              clear hElG hbGW hqG haG hsF hsG hbG hwG
              go_quiet ((go_at_call 20; refine Calls.quiet_of_same (workQ _ (HG.out.2.2.1.later (below_drewNq _ _ _)))))
              generalize hwH : World.drewN wG _ = wH
              have hbH : Below wG.heap.size wG wH := by rw [← hwH]; exact below_drewNq _ _ _
              clear hwH a0 a1 a2 a3 a4 a5 x0 x1 x2 x3 x4 x5
              have htn : t ≠ .nil := fun e => by have := HX.out.2.2.2.2.2.1; rw [e] at this; exact Nat.lt_irrefl _ this
              have hwk9 : work ≤ 4611686018427387904 := by have h8 := HX.out.2.2.1; have h9 := HX.out.2.2.2.2.2.2.1; have h7 := HX.out.2.2.2.2.2.2.2.1; omega
              have HM := min_any _ _ _ _ _ _ _ _ _ _ _ wH (HG.out.2.2.1.later hbH) htn hwk9
              have hk9 := openT_k _ side_sdL t.size t (Nat.le_refl _)
              have hsz9 := HG.out.2.2.1.n1.2.2
              obtain ⟨mm, hmm⟩ : ∃ mm, (openT sdL t).m = mm := ⟨_, rfl⟩
              obtain ⟨tb, htb⟩ : ∃ tb, (openT sdL t).b = tb := ⟨_, rfl⟩
              obtain ⟨kk, hkk⟩ : ∃ kk, (openT sdL t).k = kk := ⟨_, rfl⟩
              rw [hmm, htb, hkk] at HM
              rw [hkk] at hk9
              unfold evV at HM
              have HKK : Hid (kk ≤ 8192 ∧ Below wG.heap.size wG wH) := ⟨by omega, hbH⟩
              clear hmm htb hkk htn hwk9 hk9 hsz9 hbH
              go_upto_region 26 with (go_at_call 22; (with_reducible refine HM.mono ?_); rintro e wM ⟨AM, rfl, hqM, hpsM, hEM, hCM⟩; have HMs : Hid (QI wM W1.heap.size qb g6 c6 n6 AM (.node .nil mm tb) fl6 mm room (work + kk) ∧ t.ps = mm :: tb.ps ∧ AM.E = AF.E ∧ Ch (S2 qb g6) wH wM) := ⟨hqM, hpsM, hEM, hCM⟩; clear hqM hpsM hEM hCM)
              clear HM
              obtain ⟨wN, hwN⟩ : ∃ wN, wM.alloc (.cells #[.int .u64 (AF.E mm).t, .int .i64 (AF.E mm).s, .int .u64 (AF.E mm).q, .int .i64 (AF.E mm).d, .int .i64 (AF.E mm).k, .int .i64 (AF.E mm).v] 33) = wN := ⟨_, rfl⟩
              rw [hwN]
              have hbN : Below wM.heap.size wM wN := by rw [← hwN]; exact (Below.refl _ wM).alloc (Nat.le_refl _) _
              have haN : wN.heap[wM.heap.size]? = some (.cells #[.int .u64 (AF.E mm).t, .int .i64 (AF.E mm).s, .int .u64 (AF.E mm).q, .int .i64 (AF.E mm).d, .int .i64 (AF.E mm).k, .int .i64 (AF.E mm).v] 33 (0, 0)) := by rw [← hwN]; exact World.alloc_heap_new wM _
              have HNs : Hid (QI wN W1.heap.size qb g6 c6 n6 AM (.node .nil mm tb) fl6 mm room (work + kk) ∧ wN.heap[wM.heap.size]? = some (.cells #[.int .u64 (AF.E mm).t, .int .i64 (AF.E mm).s, .int .u64 (AF.E mm).q, .int .i64 (AF.E mm).d, .int .i64 (AF.E mm).k, .int .i64 (AF.E mm).v] 33 (0, 0)) ∧ Below wM.heap.size wM wN) := ⟨HMs.out.1.later hbN, haN, hbN⟩
              have HD2 := depthsQ wN HNs.out.1 (by simp [Tr.size])
              clear hwN hbN haN
              obtain ⟨z2, hz2⟩ : ∃ z2, (Tr.node .nil mm tb).size = z2 := ⟨_, rfl⟩
              rw [hz2] at HD2
              have hz3 : 0 < z2 := by rw [← hz2]; simp [Tr.size]
              go_upto_region 27 with (go_at_call 18; (with_reducible refine HD2.mono ?_); rintro e wE ⟨be, ce, rfl, hEe, hbe, hqE, hCE⟩; have HEs : Hid ((be < wE.heap.size ∧ ∀ i, i < z2 → wE.cell? ⟨be, i, none⟩ = some (dpF ((Tr.node .nil mm tb).spots 0) i)) ∧ QI wE W1.heap.size qb g6 c6 n6 AM (.node .nil mm tb) fl6 mm room (work + kk) ∧ Ch (S2 qb g6) wN wE) := ⟨hEe, hqE, hCE⟩; clear hEe hbe hqE hCE)
              clear HD2 hz2
              have hls := HX.out.2.2.2.2.1
              have hsz1 := HG.out.2.2.2.2.1
              have hsz2 := HG.out.2.2.2.2.2
              have hsz3 := HKK.out.2.size
              have hsz4 := HMs.out.2.2.2.size
              have hsz5 := HNs.out.2.2.size
              have hsz6 := HEs.out.2.2.size
              have hEE : EvsL wE bl t.size (spX A t) := ((((HG.out.1.later HKK.out.2).keep HMs.out.2.2.2 HZ.out.2.2.2.1).later HNs.out.2.2).keep HEs.out.2.2 HZ.out.2.2.2.1)
              have hbEW : Below W1.heap.size W1 wE := by
                have b1 := HG.out.2.1.trans (HKK.out.2.mono HG.out.2.1.size)
                have b2 := b1.trans (HMs.out.2.2.2.toBelow b1.size (by rintro k (rfl | rfl); exact hls.1.2; exact hls.2.2))
                have b3 := b2.trans (HNs.out.2.2.mono b2.size)
                exact b3.trans (HEs.out.2.2.toBelow b3.size (by rintro k (rfl | rfl); exact hls.1.2; exact hls.2.2))
              have haE : wE.heap[wF.heap.size]? = some (.cells #[.int .u64 (A.E root).t, .int .i64 (A.E root).s, .int .u64 (A.E root).q, .int .i64 (A.E root).d, .int .i64 (A.E root).k, .int .i64 (A.E root).v] 33 (0, 0)) := (HEs.out.2.2.block _ (by omega) (by rintro (e | e) <;> omega)).trans ((HNs.out.2.2.block _ (by omega)).trans ((HMs.out.2.2.2.block _ (by omega) (by rintro (e | e) <;> omega)).trans ((HKK.out.2.block _ (by omega)).trans HG.out.2.2.2.1)))
              have hmE : wE.heap[wM.heap.size]? = some (.cells #[.int .u64 (AF.E mm).t, .int .i64 (AF.E mm).s, .int .u64 (AF.E mm).q, .int .i64 (AF.E mm).d, .int .i64 (AF.E mm).k, .int .i64 (AF.E mm).v] 33 (0, 0)) := (HEs.out.2.2.block _ (lt_of_block HNs.out.2.1) (by rintro (e | e) <;> omega)).trans HNs.out.2.1
              have hX0 : spX A t 0 = AF.E mm := by rw [HFs.out.2.1]; exact spX0 A HMs.out.2.1
              obtain ⟨m0, m1, m2, m3, m4, m5⟩ := q6c hmE
              obtain ⟨x0, x1, x2, x3, x4, x5⟩ := hEE.at HX.out.2.2.2.2.2.1
              rw [hX0] at x0 x1 x2 x3 x4 x5
              simp only [Nat.zero_mul, Nat.zero_add] at x0 x1 x2 x3 x4 x5
              have cE : wE.cell? ⟨be, 0, none⟩ = some (.int .i64 0) := HEs.out.1.2 0 hz3
              have ne2 := neq_ev9 (AF.E mm)
              have lz : ((z2 : Int) == 0) = false := by simp; omega
              have lz2 : (0 : Int) < (z2 : Int) := by omega
              have lt0 : (0 : Int) < (t.size : Int) := by have := HX.out.2.2.2.2.2.1; omega
              have HE9 : Hid (EvsL wE bl t.size (spX A t) ∧ Below W1.heap.size W1 wE ∧ wE.heap[wF.heap.size]? = some (.cells #[.int .u64 (A.E root).t, .int .i64 (A.E root).s, .int .u64 (A.E root).q, .int .i64 (A.E root).d, .int .i64 (A.E root).k, .int .i64 (A.E root).v] 33 (0, 0)) ∧ wF.heap.size < wE.heap.size ∧ wr.heap.size ≤ wF.heap.size) := ⟨hEE, hbEW, haE, by omega, hsz2⟩
              clear hEE hbEW haE hmE hX0 hsz1 hsz2 hsz3 hsz4 hsz5 hsz6 hls
              go_quiet (fail)
              generalize hwP : World.drewN wE _ = wP
              have hbP : Below wE.heap.size wE wP := by rw [← hwP]; exact below_drewNq _ _ _
              clear hwP m0 m1 m2 m3 m4 m5 x0 x1 x2 x3 x4 x5 cE ne2 lz lz2 lt0
              have hEAM : AM.E root = A.E root := by rw [HMs.out.2.2.1, HFs.out.2.1]
              have hrt : root ∈ (Tr.node .nil mm tb).ps := by
                show root ∈ [] ++ mm :: tb.ps
                rw [List.nil_append, ← HMs.out.2.1]
                obtain ⟨l, r, e⟩ := HX.out.2.2.2.2.2.2.2.2.rootT HX.out.1
                rw [e]
                simp [Tr.ps]
              have hbPW : Below W1.heap.size W1 wP := HE9.out.2.1.trans (hbP.mono HE9.out.2.1.size)
              have hKBP : KBx wP W.heap.size kt ks kq := (hbPW.block _ (by have := HK1.out.2.2.1; omega)).trans HK1.out.1
              obtain ⟨k0, k1, k2⟩ := hKBP.cells
              have HF2 := findThere kt ks kq wP (HEs.out.2.1.later hbP) hrt (by rw [hEAM]; exact HX.out.2.1) (by have h8 := HX.out.2.2.1; have h9 := HX.out.2.2.2.2.2.2.1; have h7 := HX.out.2.2.2.2.2.2.2.1; have h6 := HKK.out.1; omega)
              rw [hEAM] at HF2
              unfold evV at HF2
              have HP9 : Hid (EvsL wP bl t.size (spX A t) ∧ Below W1.heap.size W1 wP ∧ wP.heap[wF.heap.size]? = some (.cells #[.int .u64 (A.E root).t, .int .i64 (A.E root).s, .int .u64 (A.E root).q, .int .i64 (A.E root).d, .int .i64 (A.E root).k, .int .i64 (A.E root).v] 33 (0, 0)) ∧ wF.heap.size < wP.heap.size ∧ wr.heap.size ≤ wF.heap.size ∧ AM.E root = A.E root ∧ bl < wF.heap.size) := ⟨HE9.out.1.later hbP, hbPW, (hbP.block _ HE9.out.2.2.2.1).trans HE9.out.2.2.1, by have := hbP.size; have := HE9.out.2.2.2.1; omega, HE9.out.2.2.2.2, hEAM, by have h1 := HLs.out.1.1; have h2 := HZ.out.2.2.2.2.2; have h3 := HSx.out.2.2.2.2.2.2; have h4 := HFs.out.2.2.size; omega⟩
              clear hbP hEAM hrt hbPW hKBP
              have hls := HX.out.2.2.2.2.1
              have h9w := HP9.out.2.2.2.2.1
              go_upto_region 30 with (go_at_call 21; (with_reducible refine HF2.mono ?_); rintro e wQ ⟨rfl, AQ, tQ, wkQ, hqQ, hr0, hEQ, hwQ, hCQ⟩; have haQ : wQ.heap[wF.heap.size]? = some (.cells #[.int .u64 (A.E root).t, .int .i64 (A.E root).s, .int .u64 (A.E root).q, .int .i64 (A.E root).d, .int .i64 (A.E root).k, .int .i64 (A.E root).v] 33 (0, 0)) := (hCQ.block _ HP9.out.2.2.2.1 (by rintro (e | e) <;> omega)).trans HP9.out.2.2.1; obtain ⟨r0, r1, r2, r3, r4, r5⟩ := q6c haQ; have rf := frz haQ; have rf0 := rf 0; have rf1 := rf 1; have rf2 := rf 2; have rf3 := rf 3; have rf4 := rf 4; have rf5 := rf 5; clear rf; have HQs : Hid (QI wQ W1.heap.size qb g6 c6 n6 AQ tQ fl6 root room wkQ ∧ AQ.E = AM.E ∧ wkQ ≤ work + kk + 8192 ∧ Ch (S2 qb g6) wP wQ ∧ wQ.heap[wF.heap.size]? = some (.cells #[.int .u64 (A.E root).t, .int .i64 (A.E root).s, .int .u64 (A.E root).q, .int .i64 (A.E root).d, .int .i64 (A.E root).k, .int .i64 (A.E root).v] 33 (0, 0))) := ⟨hqQ, hEQ, hwQ, hCQ, haQ⟩; clear hqQ hEQ hwQ hCQ haQ)
              generalize hWF : (World.setCell (World.setCell (World.setCell (World.setCell (World.setCell (World.setCell wQ _ _) _ _) _ _) _ _) _ _) _ _) = wY
              obtain ⟨p1, p2, p3⟩ := put6 HQs.out.2.2.2.2 _ _ _ _ _ _ wY hWF
              have hsQ := HQs.out.2.2.2.1.size
              have hbl9 := HP9.out.2.2.2.2.2.2
              have hqY : QI wY W1.heap.size qb g6 c6 n6 AQ tQ fl6 root room wkQ := HQs.out.1.far (p2 qb (by omega)) (p2 g6 (by omega))
              have hEQ9 : EvsL wQ bl t.size (spX A t) := HP9.out.1.keep HQs.out.2.2.2.1 HZ.out.2.2.2.1
              have hEY : EvsL wY bl t.size (spX A t) := ⟨by have h1 := (p3 0 _ (Below.refl 0 _) (Nat.zero_le _)).size; have h2 := hEQ9.1; omega, fun i9 r9 hi9 hr9 => (World.cell?_of_block (p2 bl (by omega))).trans (hEQ9.2 i9 r9 hi9 hr9)⟩
              have hbQW : Below W1.heap.size W1 wQ := HP9.out.2.1.trans (HQs.out.2.2.2.1.toBelow HP9.out.2.1.size (by rintro k (rfl | rfl); exact hls.1.2; exact hls.2.2))
              have hbYW : Below W1.heap.size W1 wY := p3 _ _ hbQW (by omega)
              obtain ⟨d0, d1, d2, d3, d4, d5⟩ := q6c p1
              obtain ⟨x0, x1, x2, x3, x4, x5⟩ := hEY.at HSx.out.2.2.2.2.2.1
              rw [HSx.out.2.2.2.2.1] at x0 x1 x2 x3 x4 x5
              have HY : Hid (QI wY W1.heap.size qb g6 c6 n6 AQ tQ fl6 root room wkQ ∧ Below W1.heap.size W1 wY) := ⟨hqY, hbYW⟩
              clear hqY hEQ9 hEY hbQW hbYW p1 p2 p3 hWF hsQ hbl9 r0 r1 r2 r3 r4 r5 rf0 rf1 rf2 rf3 rf4 rf5 k0 k1 k2 HF2 hls h9w
              go_quiet (fail)
              go_wp2_with fail
              have hlt := HX.out.2.2.2.2.2.2.2.1
              refine ⟨⟨v + 1, AQ, tQ, root, wkQ, rfl, by omega, HY.out.1.later (below_drewNq _ _ _), HX.out.1, ?_, ?_, HY.out.2.trans (below_drewNq _ _ _)⟩, ?_⟩
              · rw [HQs.out.2.1, HP9.out.2.2.2.2.2.1]
                exact HX.out.2.1
              · have h8 := HX.out.2.2.1
                have h7 := HKK.out.1
                have h6 := HQs.out.2.2.1
                omega
              · exact meas hlt
            · have dl : decide ((v : Int) < 2) = false := by simp; omega
              go_wp2_with fail
              go_ret
              exact ⟨rfl, HK1.out.2.1.trans (hbr.mono HK1.out.2.1.size)⟩
theorem roots_law (room : Int) (p : Option Addr) (N c : Nat) (O : Nat → OpV) (kt ks kq : Int) (W : World) (hk : OpsIn W p N O) (hN : N ≤ 3000000000000) :
    Calls Try.prog 5 #[.int .i64 room, .slice p N c, .agg #[.int .u64 kt, .int .i64 ks, .int .u64 kq]] W fun e W' => e = .returned (.bool true) ∧ Below W.heap.size W W' := by
  by_cases h : room < 1 ∨ 8192 < room
  · exact roots_bad room p N c kt ks kq W h
  · exact roots_good room p N c O kt ks kq W (by omega) (by omega) hk hN
end Go.Proofs.Ytbnpjcpakgafoaa
