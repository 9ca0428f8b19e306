import Derived.Test.YtcibmbcfpecgpaaK8
import Derived.Deep.RegionHeld3
namespace Go.Proofs.Ytcibmbcfpecgpaa
open Go.ChangeShapes Go.WideShapes Go.ChangeAt Go.RowKit
set_option linter.unusedVariables false

theorem allB_len (es : List Ev) (h : ∀ e ∈ es, e.In) (hL : es.length ≤ 1048576) : (allB es).length ≤ 10 + 60 * es.length := by
  unfold allB
  have h1 := enc_len10 es.length (by omega)
  have h2 := evsB_len es h
  rw [List.length_append]
  omega
set_option maxRecDepth 100000 in
set_option maxHeartbeats 4000000 in
theorem law_packs (e : Ev) (he : e.In) (es : List Ev) (sl : Option Addr) (cap : Nat) (w : World) (h : EvsAt w sl es) (hL : es.length ≤ 1048576) :
    Calls Try.prog 3 #[.agg #[.int .u64 e.t, .int .i64 e.s, .int .u64 e.q, .int .i64 e.d, .int .i64 e.k, .int .i64 e.v], .slice sl es.length cap] w fun r w' => r = .returned (.bool true) ∧ Below w.heap.size w w' := by
  have bA := allB_len es h.2 hL
  have bE := he.len
  have bC := allB_len [e] (fun x hx => by obtain rfl : x = e := by simpa using hx
                                          exact he) (by simp)
  have b5 := data5_in.len
  have hE0 := h
  have hb0 : Below w.heap.size w (w.alloc (.cells #[.int .u64 e.t, .int .i64 e.s, .int .u64 e.q, .int .i64 e.d, .int .i64 e.k, .int .i64 e.v] 26)) := (Below.refl _ w).alloc (Nat.le_refl _) _
  have HX0 : Hid (BoxAt (w.alloc (.cells #[.int .u64 e.t, .int .i64 e.s, .int .u64 e.q, .int .i64 e.d, .int .i64 e.k, .int .i64 e.v] 26)) w.heap.size e) := box_new w e
  have HB0 : Hid (Below w.heap.size w (w.alloc (.cells #[.int .u64 e.t, .int .i64 e.s, .int .u64 e.q, .int .i64 e.d, .int .i64 e.k, .int .i64 e.v] 26))) := hb0
  have HE : Hid (EvsAt w sl es) := h
  have hin : Hid (∀ x ∈ es, x.In) := h.2
  have hR := fun W hW => roomy_any es sl cap W hW (by omega)
  have hRA := fun n hn W hW => rPackAllE es sl n cap hn W hW (by omega)
  have hPA := fun n hn p c W hW => packAllE es p n c hn W hW (by omega)
  have hUT := fun g b W h1 h2 => untouched_any es sl cap b g W h1 (by omega) h2
  obtain ⟨la, hla⟩ : ∃ la, (allB es).length = la := ⟨_, rfl⟩
  obtain ⟨lb, hlb⟩ : ∃ lb, e.bytes.length = lb := ⟨_, rfl⟩
  obtain ⟨lc, hlc⟩ : ∃ lc, (allB [e]).length = lc := ⟨_, rfl⟩
  obtain ⟨ld, hld⟩ : ∃ ld, data5.bytes.length = ld := ⟨_, rfl⟩
  have hPE := packE e he
  have hP5 : ∀ W, Calls Try.prog 9 #[.agg #[.int .u64 0, .int .i64 0, .int .u64 0, .int .i64 0, .int .i64 0, .int .i64 5]] W fun r w' => ∃ p c, r = .returned (.slice p data5.bytes.length c) ∧ Own w' W.heap.size 5 1 (.slice p data5.bytes.length c) data5.bytes.length (rowF data5.bytes) ∧ Below W.heap.size W w' := packE data5 data5_in
  have hRE := rPackE e he
  have hR5 : ∀ W, Calls Try.prog 7 #[.agg #[.int .u64 0, .int .i64 0, .int .u64 0, .int .i64 0, .int .i64 0, .int .i64 5]] W fun r w' => ∃ p c, r = .returned (.slice p data5.bytes.length c) ∧ Own w' W.heap.size 5 1 (.slice p data5.bytes.length c) data5.bytes.length (rowF data5.bytes) ∧ Below W.heap.size W w' := rPackE data5 data5_in
  have hP1 := fun p c W hW => packAllE [e] p 1 c rfl W hW (by simp)
  have hR1 := fun p c W hW => rPackAllE [e] p 1 c rfl W hW (by simp)
  have hSA := fun v1 v2 b1 b2 W h1 h2 => sameE (allB es) la hla v1 v2 b1 b2 (by omega) W h1 h2
  have hSE := fun v1 v2 b1 b2 W h1 h2 => sameE e.bytes lb hlb v1 v2 b1 b2 (by omega) W h1 h2
  have hSC := fun v1 v2 b1 b2 W h1 h2 => sameE (allB [e]) lc hlc v1 v2 b1 b2 (by simp at bC; omega) W h1 h2
  have hSD := fun v1 v2 b1 b2 W h1 h2 => sameE data5.bytes ld hld v1 v2 b1 b2 (by omega) W h1 h2
  rw [hla] at bA hRA hPA
  rw [hlb] at bE hPE hRE
  rw [hlc] at bC hP1 hR1
  rw [hld] at b5 hP5 hR5
  obtain ⟨n, hn⟩ : ∃ n, es.length = n := ⟨_, rfl⟩
  have hRA := hRA n hn
  have hPA := hPA n hn
  rw [hn] at bA hL hR hUT ⊢
  have HN : Hid (es.length = n) := hn
  have hRM : Hid (∀ g b W, Own W b 26 6 (.slice (some ⟨g, 0, none⟩) (n + 3) (n + 3)) (n + 3) (roomC es (n + 3)) → EvsAt W (some ⟨g, 0, none⟩) es) := fun g b W h1 => evs_of_room (base := b) hin.out (by rw [hn]; exact h1)
  have KR : Hid (_ ∧ True) := ⟨hR, trivial⟩
  have KRA : Hid (_ ∧ True) := ⟨hRA, trivial⟩
  have KPA : Hid (_ ∧ True) := ⟨hPA, trivial⟩
  have KUT : Hid (_ ∧ True) := ⟨hUT, trivial⟩
  have KPE : Hid (_ ∧ True) := ⟨hPE, trivial⟩
  have KP5 : Hid (_ ∧ True) := ⟨hP5, trivial⟩
  have KRE : Hid (_ ∧ True) := ⟨hRE, trivial⟩
  have KR5 : Hid (_ ∧ True) := ⟨hR5, trivial⟩
  have KP1 : Hid (_ ∧ True) := ⟨hP1, trivial⟩
  have KR1 : Hid (_ ∧ True) := ⟨hR1, trivial⟩
  have KSA : Hid (_ ∧ True) := ⟨hSA, trivial⟩
  have KSE : Hid (_ ∧ True) := ⟨hSE, trivial⟩
  have KSC : Hid (_ ∧ True) := ⟨hSC, trivial⟩
  have KSD : Hid (_ ∧ True) := ⟨hSD, trivial⟩
  clear hR hRA hPA hUT hPE hP5 hRE hR5 hP1 hR1 hSA hSE hSC hSD hla hlb hlc hld hn h hE0 hb0
  have n1 : (0 : Int) ≤ (n : Int) := by omega
  have n2 : (n : Int) ≤ (n : Int) + 3 := by omega
  have n3 : n ≤ n + 3 := by omega
  go_enter Try.func3, Try.ntmps3
  go_wp2_with fail
  refine (KR.out.1 _ (HE.out.below HB0.out)).mono ?_
  rintro x w1 ⟨rfl, hO1, hb1⟩
  obtain ⟨g, hg⟩ : ∃ g, (w.alloc (.cells #[.int .u64 e.t, .int .i64 e.s, .int .u64 e.q, .int .i64 e.d, .int .i64 e.k, .int .i64 e.v] 26)).heap.size = g := ⟨_, rfl⟩
  rw [hg] at hO1 ⊢
  have HO1 : Hid (Own w1 g 26 6 (.slice (some ⟨g, 0, none⟩) (n + 3) (n + 3)) (n + 3) (roomC es (n + 3))) := hO1
  have HX1 : Hid (BoxAt w1 w.heap.size e) := HX0.out.below hb1
  have HB1 : Hid (Below w.heap.size w w1) := chain' HB0.out hb1
  clear hO1 hb1 hg HX0 HB0
  go_wp2_with fail
  refine (KRA.out.1 w1 (HE.out.below HB1.out)).mono ?_
  rintro x w2 ⟨pw, cw, rfl, hOw, hb2⟩
  have HOW : Hid (Own w2 w1.heap.size 5 1 (.slice pw la cw) la (rowF (allB es))) := hOw
  have HB2 : Hid (Below w1.heap.size w1 w2) := hb2
  obtain ⟨x0, x1, x2, x3, x4, x5, x6⟩ := HX1.out.below hb2
  clear hOw hb2
  go_wp2_with fail
  refine (KRE.out.1 w2).mono ?_
  rintro x w3 ⟨po, co, rfl, hOo, hb3⟩
  have HOO : Hid (Own w3 w2.heap.size 5 1 (.slice po lb co) lb (rowF e.bytes)) := hOo
  have HB3 : Hid (Below w1.heap.size w1 w3) := chain' HB2.out hb3
  have HOW3 : Hid (Own w3 w1.heap.size 5 1 (.slice pw la cw) la (rowF (allB es))) := HOW.out.more hb3
  have HX3 : Hid (BoxAt w3 w.heap.size e) := HX1.out.below HB3.out
  clear hOo hb3 x0 x1 x2 x3 x4 x5 x6 HB2 HOW
  have HP : Hid (∀ W, Below w1.heap.size w1 W → EvsAt W (some ⟨g, 0, none⟩) es) := fun W hW => hRM.out g g W (HO1.out.more hW)
  go_wp2_with fail
  go_region_held3 (fun W => W.cell? ⟨w.heap.size, 0, none⟩ = some (.int .u64 e.t) ∧ W.cell? ⟨w.heap.size, 1, none⟩ = some (.int .i64 e.s) ∧ W.cell? ⟨w.heap.size, 2, none⟩ = some (.int .u64 e.q) ∧ W.cell? ⟨w.heap.size, 3, none⟩ = some (.int .i64 e.d) ∧ W.cell? ⟨w.heap.size, 4, none⟩ = some (.int .i64 e.k) ∧ W.cell? ⟨w.heap.size, 5, none⟩ = some (.int .i64 e.v) ∧ Below w3.heap.size w3 W)
    (first | (exact boxS HX3.out ((boxB (e := e) (by assumption)).trans (hb.mono (boxB (e := e) (by assumption)).size))) | (exact boxS HX3.out (Below.refl _ _).drew))
    (first | (go_at_call 8; refine (KPA.out.1 _ _ _ (HP.out _ (chain' HB3.out (boxB (e := e) (by assumption))))).mono ?_; rintro _ w4 ⟨pa, ca, rfl, hOa, hb⟩) | (go_at_call 9; refine (KPE.out.1 _).mono ?_; rintro _ w5 ⟨px, cx, rfl, hOx, hb⟩))
  rename_i hbA hHeld
  have hb4 : Below w3.heap.size w3 w4 := (Below.refl w3.heap.size w3).drew.trans hbA
  have HL2 : Hid (Lists w5 w3.heap.size 5 1 2 (ext (ext (fun _ => undef) 0 (.slice pa la ca)) 1 (.slice px lb cx)) (ext (ext (fun _ => 0) 0 la) 1 lb) (ext (ext (fun _ => rowF []) 0 (rowF (allB es))) 1 (rowF e.bytes))) := ((Lists.zero w3 w3.heap.size 5 1 (fun _ => undef) (fun _ => 0) (fun _ => rowF [])).snoc hb4 (Nat.le_refl _) (Nat.le_refl _) hOa).snoc hb hb4.size (Nat.le_refl _) hOx
  have HB5 : Hid (Below w3.heap.size w3 w5) := chain' hb4 hb
  have HX5 : Hid (BoxAt w5 w.heap.size e) := HX3.out.below HB5.out
  clear hb4 hb hOa hOx hbA hHeld
  obtain ⟨x0, x1, x2, x3, x4, x5, x6⟩ := HX5.out
  have hb6 : Below w5.heap.size w5 (w5.alloc (.cells #[.int .u64 e.t, .int .i64 e.s, .int .u64 e.q, .int .i64 e.d, .int .i64 e.k, .int .i64 e.v] 26)) := (Below.refl _ w5).alloc (Nat.le_refl _) _
  have HB6 : Hid (Below w5.heap.size w5 (w5.alloc (.cells #[.int .u64 e.t, .int .i64 e.s, .int .u64 e.q, .int .i64 e.d, .int .i64 e.k, .int .i64 e.v] 26))) := hb6
  clear hb6
  go_wp2_with fail
  refine (KP1.out.1 _ _ _ (evs_one w5 e he)).mono ?_
  rintro x w6 ⟨pp, cp, rfl, hOp, hb⟩
  have HL3 := HL2.out.snoc (chain' HB6.out hb) HB5.out.size HB6.out.size hOp
  have HB7 : Hid (Below w5.heap.size w5 w6) := chain' HB6.out hb
  have HL3' : Hid (_ ∧ True) := ⟨HL3, trivial⟩
  clear HL3 hOp hb x0 x1 x2 x3 x4 x5 x6 HB6
  go_wp2_with fail
  refine (KP5.out.1 _).mono ?_
  rintro x w7 ⟨pq, cq, rfl, hOq, hb⟩
  have HL4 := HL3'.out.1.snoc hb (Nat.le_trans HB5.out.size HB7.out.size) (Nat.le_refl _) hOq
  have HB8 : Hid (Below w5.heap.size w5 w7) := chain' HB7.out hb
  have HL4' : Hid (_ ∧ True) := ⟨HL4, trivial⟩
  have HB9 : Hid (Below w3.heap.size w3 w7) := chain' HB5.out HB8.out
  have HX7 : Hid (BoxAt w7 w.heap.size e) := HX3.out.below HB9.out
  clear HL4 hOq hb
  go_wp2_with fail
  go_region_held3 (fun W => W.cell? ⟨w.heap.size, 0, none⟩ = some (.int .u64 e.t) ∧ W.cell? ⟨w.heap.size, 1, none⟩ = some (.int .i64 e.s) ∧ W.cell? ⟨w.heap.size, 2, none⟩ = some (.int .u64 e.q) ∧ W.cell? ⟨w.heap.size, 3, none⟩ = some (.int .i64 e.d) ∧ W.cell? ⟨w.heap.size, 4, none⟩ = some (.int .i64 e.k) ∧ W.cell? ⟨w.heap.size, 5, none⟩ = some (.int .i64 e.v) ∧ Below w7.heap.size w7 W)
    (first | (exact boxS HX7.out ((boxB (e := e) (by assumption)).trans (hb.mono (boxB (e := e) (by assumption)).size))) | (exact boxS HX7.out (Below.refl _ _).drew))
    (first | (go_at_call 8; refine (KPA.out.1 _ _ _ (HP.out _ (chain' (chain' HB3.out HB9.out) (boxB (e := e) (by assumption))))).mono ?_; rintro _ w8 ⟨pb, cb, rfl, hOb, hb⟩) | (go_at_call 9; refine (KPE.out.1 _).mono ?_; rintro _ w9 ⟨py, cy, rfl, hOy, hb⟩))
  rename_i hbA hHeld
  have hb8 : Below w7.heap.size w7 w8 := (Below.refl w7.heap.size w7).drew.trans hbA
  have HL6 := (HL4'.out.1.snoc hb8 HB9.out.size (Nat.le_refl _) hOb).snoc hb (Nat.le_trans HB9.out.size hb8.size) (Nat.le_refl _) hOy
  have HL6' : Hid (_ ∧ True) := ⟨HL6, trivial⟩
  have HB10 : Hid (Below w3.heap.size w3 w9) := chain' HB9.out (chain' hb8 hb)
  clear HL6 hb8 hb hOb hOy hbA hHeld
  have OA : Hid (Own w9 w3.heap.size 5 1 (.slice pa la ca) la (rowF (allB es))) := HL6'.out.1.own 0 (by decide)
  have OX : Hid (Own w9 w3.heap.size 5 1 (.slice px lb cx) lb (rowF e.bytes)) := HL6'.out.1.own 1 (by decide)
  have OP : Hid (Own w9 w3.heap.size 5 1 (.slice pp lc cp) lc (rowF (allB [e]))) := HL6'.out.1.own 2 (by decide)
  have OQ : Hid (Own w9 w3.heap.size 5 1 (.slice pq ld cq) ld (rowF data5.bytes)) := HL6'.out.1.own 3 (by decide)
  have OB : Hid (Own w9 w3.heap.size 5 1 (.slice pb la cb) la (rowF (allB es))) := HL6'.out.1.own 4 (by decide)
  have OY : Hid (Own w9 w3.heap.size 5 1 (.slice py lb cy) lb (rowF e.bytes)) := HL6'.out.1.own 5 (by decide)
  have OW : Hid (Own w9 w1.heap.size 5 1 (.slice pw la cw) la (rowF (allB es))) := HOW3.out.more HB10.out
  have OO : Hid (Own w9 w2.heap.size 5 1 (.slice po lb co) lb (rowF e.bytes)) := HOO.out.more HB10.out
  clear HOW3 HOO
  go_wp2_with fail
  refine (KSA.out.1 _ _ _ _ _ OA.out OW.out).mono ?_
  rintro x y1 ⟨rfl, hb⟩
  have HC1 : Hid (Below w9.heap.size w9 y1) := hb
  clear hb
  go_wp2_with fail
  refine (KSA.out.1 _ _ _ _ _ (OB.out.more HC1.out) (OW.out.more HC1.out)).mono ?_
  rintro x y2 ⟨rfl, hb⟩
  have HC2 : Hid (Below w9.heap.size w9 y2) := chain' HC1.out hb
  clear hb HC1
  go_wp2_with fail
  refine (KSE.out.1 _ _ _ _ _ (OX.out.more HC2.out) (OO.out.more HC2.out)).mono ?_
  rintro x y3 ⟨rfl, hb⟩
  have HC3 : Hid (Below w9.heap.size w9 y3) := chain' HC2.out hb
  clear hb HC2
  go_wp2_with fail
  refine (KSE.out.1 _ _ _ _ _ (OY.out.more HC3.out) (OO.out.more HC3.out)).mono ?_
  rintro x y4 ⟨rfl, hb⟩
  have HC4 : Hid (Below w9.heap.size w9 y4) := chain' HC3.out hb
  clear hb HC3
  have HX9 : Hid (BoxAt y4 w.heap.size e) := HX3.out.below (chain' HB10.out HC4.out)
  obtain ⟨x0, x1, x2, x3, x4, x5, x6⟩ := HX9.out
  have HB11 : Hid (Below y4.heap.size y4 (y4.alloc (.cells #[.int .u64 e.t, .int .i64 e.s, .int .u64 e.q, .int .i64 e.d, .int .i64 e.k, .int .i64 e.v] 26))) := (Below.refl _ y4).alloc (Nat.le_refl _) _
  go_wp2_with fail
  refine (KR1.out.1 _ _ _ (evs_one y4 e he)).mono ?_
  rintro x y5 ⟨pr, cr, rfl, hOr, hb⟩
  have HOR : Hid (Own y5 _ 5 1 (.slice pr lc cr) lc (rowF (allB [e]))) := hOr
  have HC5 : Hid (Below w9.heap.size w9 y5) := chain' (chain' HC4.out HB11.out) hb
  clear hb hOr x0 x1 x2 x3 x4 x5 x6 HB11
  go_wp2_with fail
  refine (KSC.out.1 _ _ _ _ _ (OP.out.more HC5.out) HOR.out).mono ?_
  rintro x y6 ⟨rfl, hb⟩
  have HC6 : Hid (Below w9.heap.size w9 y6) := chain' HC5.out hb
  clear hb HC5 HOR
  go_wp2_with fail
  refine (KR5.out.1 _).mono ?_
  rintro x y7 ⟨ps, cs, rfl, hOs, hb⟩
  have HOS : Hid (Own y7 _ 5 1 (.slice ps ld cs) ld (rowF data5.bytes)) := hOs
  have HC7 : Hid (Below w9.heap.size w9 y7) := chain' HC6.out hb
  clear hb HC6 hOs
  go_wp2_with fail
  refine (KSD.out.1 _ _ _ _ _ (OQ.out.more HC7.out) HOS.out).mono ?_
  rintro x y8 ⟨rfl, hb⟩
  have HC8 : Hid (Below w9.heap.size w9 y8) := chain' HC7.out hb
  have HD8 : Hid (Below w1.heap.size w1 y8) := chain' (chain' HB3.out HB10.out) HC8.out
  clear hb HC7 HOS
  go_wp2_with fail
  refine (KUT.out.1 g g y8 (HE.out.below (chain' HB1.out HD8.out)) (HO1.out.more HD8.out)).mono ?_
  rintro x y9 ⟨rfl, hb⟩
  have HC9 : Hid (Below w9.heap.size w9 y9) := chain' HC8.out hb
  clear hb HC8 HD8
  go_wp2_with fail
  have hb10 : Below y9.heap.size y9 (y9.alloc (.cells #[.slice pa la ca, .slice px lb cx, .slice pp lc cp, .slice pq ld cq, .slice pb la cb, .slice py lb cy] 29)) := (Below.refl _ y9).alloc (Nat.le_refl _) _
  have hls := HL6'.out.1.later (chain' HC9.out hb10)
  have hs1 : w3.heap.size ≤ (y9.alloc (.cells #[.slice pa la ca, .slice px lb cx, .slice pp lc cp, .slice pq ld cq, .slice pb la cb, .slice py lb cy] 29)).heap.size := Nat.le_trans (chain' HB10.out HC9.out).size hb10.size
  refine (apartB 6 6 y9.heap.size w3.heap.size (by decide) _ _ _ (fun k hk => by match k, hk with
    | 0, _ => exact Nat.le_trans bA (by omega)
    | 1, _ => exact Nat.le_trans bE (by omega)
    | 2, _ => exact Nat.le_trans bC (by simp)
    | 3, _ => exact Nat.le_trans b5 (by omega)
    | 4, _ => exact Nat.le_trans bA (by omega)
    | 5, _ => exact Nat.le_trans bE (by omega)) (y9.alloc (.cells #[.slice pa la ca, .slice px lb cx, .slice pp lc cp, .slice pq ld cq, .slice pb la cb, .slice py lb cy] 29)) (by simp) (fun k hk => by unfold World.cell?; rw [World.alloc_heap_new]; match k, hk with | 0, _ => rfl | 1, _ => rfl | 2, _ => rfl | 3, _ => rfl | 4, _ => rfl | 5, _ => rfl) ⟨_, _, World.alloc_heap_new _ _⟩ hls hs1).mono ?_
  rintro x y10 ⟨rfl, hb11⟩
  have HD10 : Hid (Below w3.heap.size w3 y10) := (chain' (chain' HB10.out HC9.out) hb10).trans hb11
  have HD11 : Hid (Below w1.heap.size w1 y10) := chain' HB3.out HD10.out
  clear hb10 hb11 hls hs1
  go_wp2_with fail
  refine (KUT.out.1 g g y10 (HE.out.below (chain' HB1.out HD11.out)) (HO1.out.more HD11.out)).mono ?_
  rintro x y11 ⟨rfl, hb⟩
  have HF : Hid (Below w.heap.size w y11) := chain' (chain' HB1.out HD11.out) hb
  clear hb
  go_wp2_with fail
  go_ret
  exact ⟨rfl, HF.out⟩
end Go.Proofs.Ytcibmbcfpecgpaa
