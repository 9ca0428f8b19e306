import Derived.Test.YtopggemomcoalaaGreatJTW11
import Derived.Test.YtopggemomcoalaaGreatJTW8
import Derived.Test.YtopggemomcoalaaGreatJM23
import Derived.Deep.QuietTactic
import Derived.Test.YtopggemomcoalaaGreatJTW10
namespace Go.Proofs.YtopggemomcoalaaGreat
open Go.ChangeShapes Go.WideShapes Go.ChangeAt Go.RowKit
set_option linter.unusedVariables false
set_option linter.unusedSimpArgs false

/-! ### compute -/
def clQ (f : Nat) : Cl := { time := 0, src := 0, seq := 0, dst := 0, kind := 0, data := 0, look := 0, parts := 1, fuel := (f : Int) }
theorem okC_Q (f : Nat) : OkC (clQ f) := ⟨⟨Int.le_refl 0, by show (0 : Int) ≤ _; omega⟩, ⟨by show _ ≤ (0 : Int); omega, by show (0 : Int) ≤ _; omega⟩, ⟨by show _ ≤ (0 : Int); omega, by show (0 : Int) ≤ _; omega⟩, ⟨by show _ ≤ (0 : Int); omega, by show (0 : Int) ≤ _; omega⟩⟩
noncomputable def effQ (Q : Pg) : Ef := effP Q (clQ Q.n) 1 (fun _ => 0) 0 0
theorem effQ_nw {Q : Pg} (h : (effQ Q).code = 0) : (effQ Q).nw = 1 := by
  unfold effQ effP at h ⊢
  split at h
  · rename_i h1; rw [if_pos h1]; exact absurd h h1
  · rename_i h1
    rw [if_neg h1]
    split at h
    · cases h
    · rename_i h2
      rw [if_neg h2]
      split at h
      · rename_i h3; rw [if_pos h3]
      · rename_i h3
        rw [if_neg h3]
        split at h
        · rename_i h4; rw [if_pos h4]
        · rename_i h4; rw [if_neg h4]
def stpsP (P : Pg) (c : Nat) : Nat → Pg
  | 0 => P
  | j + 1 => stepI (stpsP P c j) (c + j)
theorem stpsP_n (P : Pg) (c j : Nat) : (stpsP P c j).n = P.n := by
  induction j with
  | zero => rfl
  | succ j ih => exact ih
structure QOf (P Q : Pg) (c s : Nat) : Prop where
  w : Q.words = 1
  l : Q.locals = 0
  n : Q.n = s + 2
  m : Q.m = 1
  en : Q.en 0 = 0
  row : ∀ k, k < s → Q.op k = P.op (c + k) ∧ Q.a k = P.a (c + k) ∧ Q.b k = P.b (c + k)
  sv : Q.op s = 4 ∧ Q.a s = 0 ∧ Q.b s = 0
  st : Q.op (s + 1) = 0 ∧ Q.a (s + 1) = 0 ∧ Q.b (s + 1) = 0
  a64 : ∀ i, i < Q.n → In64 (Q.a i)
def tailF (j : Nat) : Value := if j = 0 then .int .i64 4 else .int .i64 0
theorem catQ {P Q : Pg} {c s g h cc : Nat} (q : QOf P Q c s) {j : Nat} (hj : j < (0 + s + 2) * 3) : catI (fun k => if k = 0 then (⟨g, c * 3, cc, s, fun j => inC P.op P.a P.b (c * 3 + j)⟩ : LsI) else ⟨h, 0, 2, 2, tailF⟩) 2 j = inC Q.op Q.a Q.b j := by
  show (if j < (0 + s) * 3 then (if j < 0 * 3 then Value.int .i64 0 else inC P.op P.a P.b (c * 3 + (j - 0 * 3))) else tailF (j - (0 + s) * 3)) = _
  by_cases h1 : j < s * 3
  · rw [if_pos (by omega), if_neg (by omega), show c * 3 + (j - 0 * 3) = c * 3 + j by omega]
    obtain ⟨r1, r2, r3⟩ := q.row (j / 3) (by omega)
    have e1 : (c * 3 + j) / 3 = c + j / 3 := by omega
    have e2 : (c * 3 + j) % 3 = j % 3 := by omega
    unfold inC
    rw [e1, e2, r1, r2, r3]
  · rw [if_neg (by omega)]
    obtain ⟨a1, a2, a3⟩ := q.sv
    obtain ⟨b1, b2, b3⟩ := q.st
    rcases (by omega : j = s * 3 ∨ j = s * 3 + 1 ∨ j = s * 3 + 2 ∨ j = (s + 1) * 3 ∨ j = (s + 1) * 3 + 1 ∨ j = (s + 1) * 3 + 2) with rfl | rfl | rfl | rfl | rfl | rfl
    · rw [inC0, a1, show s * 3 - (0 + s) * 3 = 0 by omega]; rfl
    · rw [inC1, a2, show s * 3 + 1 - (0 + s) * 3 = 1 by omega]; rfl
    · rw [inC2, a3, show s * 3 + 2 - (0 + s) * 3 = 2 by omega]; rfl
    · rw [inC0, b1, show (s + 1) * 3 - (0 + s) * 3 = 3 by omega]; rfl
    · rw [inC1, b2, show (s + 1) * 3 + 1 - (0 + s) * 3 = 4 by omega]; rfl
    · rw [inC2, b3, show (s + 1) * 3 + 2 - (0 + s) * 3 = 5 by omega]; rfl
variable {Sf : Nat → Prop} {Hf : Nat → Option Obj} {base tb : Nat} {P : Pg} {cp ep : Option Addr} {cc ec : Nat}
set_option maxRecDepth 100000 in
set_option maxHeartbeats 8000000 in
theorem compute_any (Q : Pg) (c s : Nat) (q : QOf P Q c s) (hcs : c + s ≤ P.n) (hs2 : 2 ≤ s) (hs3 : s ≤ 3) (hn : P.n ≤ 4096) (W : World) (h : TD Sf Hf W base tb P cp ep cc ec) (hB : base ≤ W.heap.size) :
    Calls Tryz.prog 108 #[.pointer (some ⟨tb, 0, none⟩), .int .i64 (c : Int), .int .i64 (s : Int)] W fun e W' => ((((effQ Q).code = 0 ∧ e = .returned (.int .i64 (s : Int)) ∧ TD Sf Hf W' base tb (setI (stpsP P c (s - 1)) (c + (s - 1)) 1 ((effQ Q).wd 0) 0) cp ep cc ec) ∨ ((effQ Q).code ≠ 0 ∧ e = .returned (.int .i64 1) ∧ TD Sf Hf W' base tb P cp ep cc ec)) ∧ Below base W W' ∧ KgP cp W W') := by
  obtain ⟨g, hg⟩ := h.ip (by omega)
  subst hg
  obtain ⟨cur, hcur, _, hcap, _⟩ := Own.block h.cd
  have H0 := tmh (And.intro h (And.intro hB q))
  obtain ⟨y0, y1, y2, y3⟩ := h.cells
  have i0 : (0 : Int) ≤ (c : Int) := by omega
  have i1 : (c : Int) ≤ ((c + s : Nat) : Int) := by omega
  have i2 : ((c + s : Nat) : Int) ≤ (cc : Int) := by omega
  have i3 : (c : Int) ≤ (c : Int) + (s : Int) := by omega
  have i4 : (c : Int) + (s : Int) ≤ (cc : Int) := by omega
  have hne : ¬ (cc = c) := by omega
  have hne2 : ¬ (cc - c = 0) := by omega
  have ek : IntKind.i64.wrap ((c : Int) + (s : Int)) = (c : Int) + (s : Int) := by rw [IntKind.wrap_i64]; omega
  have e4 : (c : Int) + (s : Int) - (c : Int) = (s : Int) := by omega
  have e5 : (cc : Int) - (c : Int) = ((cc - c : Nat) : Int) := by omega
  clear hcur h hB
  go_enter Tryz.func108, Tryz.ntmps108
  obtain ⟨w2, hw2⟩ : ∃ w2, (W.alloc (.cells #[.int .i64 4, .int .i64 0, .int .i64 0, .int .i64 0, .int .i64 0, .int .i64 0] 36)).alloc (.cells #[.slice (some ⟨g, c * 3, none⟩) s (cc - c), .slice (some ⟨W.heap.size, 0, none⟩) 2 2] 22) = w2 := ⟨_, rfl⟩
  have HW2 := tmh hw2
  have hb1 : Below W.heap.size W (W.alloc (.cells #[.int .i64 4, .int .i64 0, .int .i64 0, .int .i64 0, .int .i64 0, .int .i64 0] 36)) := (Below.refl _ W).alloc (Nat.le_refl _) _
  have hb2 : Below W.heap.size W w2 := by rw [← hw2]; exact hb1.alloc hb1.size _
  have hx1 : w2.heap[W.heap.size]? = some (.cells #[.int .i64 4, .int .i64 0, .int .i64 0, .int .i64 0, .int .i64 0, .int .i64 0] 36 (0, 0)) := by
    rw [← hw2]
    exact (((Below.refl _ _).alloc (Nat.le_refl _) _).block _ (ltB (World.alloc_heap_new W _))).trans (World.alloc_heap_new W _)
  have hx2 : w2.heap[W.heap.size + 1]? = some (.cells #[.slice (some ⟨g, c * 3, none⟩) s (cc - c), .slice (some ⟨W.heap.size, 0, none⟩) 2 2] 22 (0, 0)) := by
    rw [← hw2]
    have := World.alloc_heap_new (W.alloc (.cells #[.int .i64 4, .int .i64 0, .int .i64 0, .int .i64 0, .int .i64 0, .int .i64 0] 36)) (.cells #[.slice (some ⟨g, c * 3, none⟩) s (cc - c), .slice (some ⟨W.heap.size, 0, none⟩) 2 2] 22)
    simpa using this
  have hT2 := H0.out.1.later hb2
  have HC := concatI_any (W.heap.size + 1) 2 2 (fun k => if k = 0 then ⟨g, c * 3, cc - c, s, fun j => inC P.op P.a P.b (c * 3 + j)⟩ else ⟨W.heap.size, 0, 2, 2, tailF⟩) (by omega) (by omega) (show 0 + s + 2 ≤ 100000 by omega) w2 (ltB hx2) (fun k hk => by
    rcases (by omega : k = 0 ∨ k = 1) with rfl | rfl
    · refine ⟨by unfold World.cell?; rw [hx2]; rfl, show 0 < s by omega, hT2.gb.2.1, fun j hj => ⟨hT2.cd.cell (j := c * 3 + j) (by have hj : j < s * 3 := hj; omega), rfl⟩⟩
    · refine ⟨by unfold World.cell?; rw [hx2]; rfl, show 0 < 2 by omega, ltB hx1, fun j hj => ?_⟩
      have hj : j < 6 := hj
      refine ⟨?_, by show (tailF j).oneCell' = true; unfold tailF; split <;> rfl⟩
      show w2.cell? ⟨W.heap.size, 0 + j, none⟩ = some (tailF j)
      rw [Nat.zero_add]
      unfold World.cell? tailF
      rw [hx1]
      rcases (by omega : j = 0 ∨ j = 1 ∨ j = 2 ∨ j = 3 ∨ j = 4 ∨ j = 5) with rfl | rfl | rfl | rfl | rfl | rfl <;> rfl)
  have HC : Calls Tryz.prog 117 #[.slice (some ⟨W.heap.size + 1, 0, none⟩) 2 2] w2 fun e w' => ∃ gq cq, e = .returned (.slice (some ⟨gq, 0, none⟩) (s + 2) cq) ∧ Own w' w2.heap.size 36 3 (.slice (some ⟨gq, 0, none⟩) (s + 2) cq) (s + 2) (inC Q.op Q.a Q.b) ∧ Below w2.heap.size w2 w' := HC.mono fun e w' => by
    rintro ⟨gq, cq, rfl, h1, h2⟩
    have hr : Own w' w2.heap.size 36 3 (.slice (some ⟨gq, 0, none⟩) (0 + s + 2) cq) (0 + s + 2) (inC Q.op Q.a Q.b) := h1.congr fun j hj => catQ q hj
    refine ⟨gq, cq, ?_, ?_, h2⟩
    · show Ending.returned (.slice (some ⟨gq, 0, none⟩) (0 + s + 2) cq) = _
      rw [Nat.zero_add]
    · rw [Nat.zero_add] at hr
      exact hr
  have H2 := tmh hb2
  clear hw2 hb1 hb2 hx1 hx2 hT2
  go_upto_region 2 with (go_at_call 117; rw [HW2.out]; (with_reducible refine HC.mono ?_); rintro e w3 ⟨gq, cq, rfl, h1, h2⟩)
  have hr := h1
  have H3 := tmh (And.intro hr (And.intro (H2.out.trans (h2.mono H2.out.size)) H2.out.size))
  clear h1 h2 hr HW2 HC
  obtain ⟨w5, hw5⟩ : ∃ w5, (w3.alloc (.cells #[.int .i64 0] 3)).alloc (.cells #[.int .i64 0] 2) = w5 := ⟨_, rfl⟩
  have HW5 := tmh hw5
  have hb4 : Below w3.heap.size w3 (w3.alloc (.cells #[.int .i64 0] 3)) := (Below.refl _ w3).alloc (Nat.le_refl _) _
  have hb5 : Below w3.heap.size w3 w5 := by rw [← hw5]; exact hb4.alloc hb4.size _
  have hx1 : w5.heap[w3.heap.size]? = some (.cells #[.int .i64 0] 3 (0, 0)) := by
    rw [← hw5]
    exact (((Below.refl _ _).alloc (Nat.le_refl _) _).block _ (ltB (World.alloc_heap_new w3 _))).trans (World.alloc_heap_new w3 _)
  have hx2 : w5.heap[w3.heap.size + 1]? = some (.cells #[.int .i64 0] 2 (0, 0)) := by
    rw [← hw5]
    have := World.alloc_heap_new (w3.alloc (.cells #[.int .i64 0] 3)) (.cells #[.int .i64 0] 2)
    simpa using this
  have hP : PAt w5 Q ⟨some ⟨gq, 0, none⟩, cq, some ⟨w3.heap.size, 0, none⟩, 1⟩ := ⟨by
      show IAt w5 (some ⟨gq, 0, none⟩) Q.n Q.op Q.a Q.b
      rw [q.n]
      exact iat_own (H3.out.1.later hb5), by
      show KAt w5 (some ⟨w3.heap.size, 0, none⟩) Q.m Q.en
      rw [q.m]
      refine .inr ⟨_, _, rfl, ltB hx1, fun j hj => ?_⟩
      rw [show j = 0 by omega, q.en]
      unfold World.cell?
      rw [hx1]
      rfl⟩
  have hCA : CallAt w5 (clQ (s + 2)) (some ⟨w3.heap.size + 1, 0, none⟩) 1 1 (fun _ => 0) 0 0 := ⟨.inr ⟨_, _, rfl, ltB hx2, fun j hj => by
      rw [show j = 0 by omega]
      unfold World.cell?
      rw [hx2]
      rfl⟩, fun e => (by cases e), by omega, okC_Q _, fun j => in64_0, ⟨by omega, by omega⟩, ⟨by omega, by omega⟩⟩
  have HR := vmRun Q ⟨some ⟨gq, 0, none⟩, cq, some ⟨w3.heap.size, 0, none⟩, 1⟩ (clQ (s + 2)) (some ⟨w3.heap.size + 1, 0, none⟩) 1 1 (fun _ => 0) 0 0 w5 hP hCA q.a64
  have eQ : effP Q (clQ (s + 2)) 1 (fun _ => 0) 0 0 = effQ Q := by unfold effQ; rw [q.n]
  rw [eQ, q.w, q.l, q.n, q.m] at HR
  simp only [clQ] at HR
  have HR2 := HR
  rw [show ((s + 2 : Nat) : Int) = (s : Int) + 2 from rfl] at HR2
  have hb35 : Below W.heap.size W w5 := H3.out.2.1.trans (hb5.mono H3.out.2.1.size)
  have H5 := tmh hb35
  clear hw5 hb4 hb5 hx1 hx2 hP hCA eQ hb35 hne hne2 i3 i4 e4 e5 i2 i1
  go_upto_region 3 with (go_at_call 16; rw [HW5.out]; (first | with_reducible refine HR.mono ?_ | with_reducible refine HR2.mono ?_); rintro e w6 ⟨r, rfl, ⟨wp, wc, op, oc, rfl, hwd, hev⟩, hb6⟩)
  obtain ⟨w7, hw7⟩ : ∃ w7, w6.alloc (.cells #[.int .i64 (effQ Q).code, .slice wp (effQ Q).nw wc, .int .u64 (effQ Q).dice, .int .u64 (effQ Q).sent, .slice op (effQ Q).on oc, .int .i64 (effQ Q).used] 58) = w7 := ⟨_, rfl⟩
  have hb7 : Below w6.heap.size w6 w7 := by rw [← hw7]; exact (Below.refl _ w6).alloc (Nat.le_refl _) _
  have hx7 : w7.heap[w6.heap.size]? = some (.cells #[.int .i64 (effQ Q).code, .slice wp (effQ Q).nw wc, .int .u64 (effQ Q).dice, .int .u64 (effQ Q).sent, .slice op (effQ Q).on oc, .int .i64 (effQ Q).used] 58 (0, 0)) := by rw [← hw7]; exact World.alloc_heap_new w6 _
  have hb67 : Below W.heap.size W w7 := H5.out.trans ((hb6.trans (hb7.mono hb6.size)).mono H5.out.size)
  have e0 : w7.cell? ⟨w6.heap.size, 0, none⟩ = some (.int .i64 (effQ Q).code) := by unfold World.cell?; rw [hx7]; rfl
  have H7 := tmh (And.intro hb67 (And.intro (hwd.later hb7) (And.intro hx7 (And.intro hb7 hb6))))
  rw [hw7]
  clear hw7 hb7 hx7 hb67 hwd hev hb6 HR HR2 HW5
  rcases (by cases ((effQ Q).code == 0) <;> simp : ((effQ Q).code == 0) = true ∨ ((effQ Q).code == 0) = false) with ec0 | ec0
  · have hc0 : (effQ Q).code = 0 := by simpa using ec0
    have hnw := effQ_nw hc0
    have HC0 := tmh (And.intro hc0 hnw)
    rw [hc0] at e0
    clear ec0 hc0 hnw y0 y1 y2 y3
    obtain ⟨D, hD⟩ : ∃ D, c + (s - 1) = D := ⟨_, rfl⟩
    have e6 : IntKind.i64.wrap ((c : Int) + (s : Int) - 1) = (D : Int) := by rw [IntKind.wrap_i64]; omega
    have hTW := H0.out.1.later H7.out.1
    have hgb := H0.out.1.gb
    have hwl := H7.out.2.1
    rw [HC0.out.2] at hwl
    obtain ⟨wg, hwg⟩ : ∃ wg, wp = some ⟨wg, 0, none⟩ := by
      rcases hwl.form with ⟨_, h2⟩ | ⟨g', c', h1, _⟩
      · omega
      · injection h1 with h1; exact ⟨g', h1⟩
    subst hwg
    have hwc : w7.cell? ⟨wg, 0, none⟩ = some (.int .i64 ((effQ Q).wd 0)) := hwl.cell (by omega)
    have hwlt := hwl.lt wg rfl
    have hs5 := H5.out.size
    have hs6 := H7.out.2.2.2.2.size
    have hltb := ltB H7.out.2.2.1
    have HT := tmh (And.intro hTW (And.intro hwc (And.intro (show wg ≠ g ∧ w6.heap.size ≠ g ∧ wg < w7.heap.size ∧ w6.heap.size < w7.heap.size by omega) (And.intro hD (show c ≤ D ∧ D < P.n ∧ base ≤ w7.heap.size by have := H0.out.2.1; have := H7.out.1.size; omega)))))
    clear hTW hgb hwl hwc hwlt hs5 hs6 hltb hD
    go_wp2_with fail
    go_loopw [10] (fun x wr => ∃ i : Nat, x = .int .i64 (i : Int) ∧ c ≤ i ∧ i ≤ D ∧ TD Sf Hf wr base tb (stpsP P c (i - c)) (some ⟨g, 0, none⟩) ep cc ec ∧ Below base W wr ∧ ∀ j, j ≠ g → j < w7.heap.size → wr.heap[j]? = w7.heap[j]?) (fun x _ => D - (intOf x).toNat)
    case atStart => exact ⟨c, rfl, Nat.le_refl _, HT.out.2.2.2.2.1, by rw [Nat.sub_self]; exact HT.out.1, H7.out.1.mono H0.out.2.1, fun j _ _ => rfl⟩
    case round =>
      obtain ⟨i, rfl, hi1, hi2, hT, hbr, hkr⟩ := hrel
      by_cases hlt : i < D
      · have d1 : decide ((i : Int) < (D : Int)) = true := by simp; omega
        have d2 : decide (i < D) = true := by simp; omega
        have ei : IntKind.i64.wrap ((i : Int) + 1) = ((i + 1 : Nat) : Int) := by have := HT.out.2.2.2.2.2.1; rw [IntKind.wrap_i64]; omega
        have hm := meas0 hlt
        have HS := stepX_any wr hT (by rw [stpsP_n]; exact hn) i (by rw [stpsP_n]; have := HT.out.2.2.2.2.2.1; omega)
        have est : stepI (stpsP P c (i - c)) i = stpsP P c (i + 1 - c) := by
          rw [show i + 1 - c = (i - c) + 1 by omega]
          show _ = stepI (stpsP P c (i - c)) (c + (i - c))
          rw [show c + (i - c) = i by omega]
        rw [est] at HS
        have HR := tmh (And.intro hbr (And.intro hkr hi1))
        clear hT hbr hkr est hi1 hi2
        go_wp2_with (go_at_call 110; (with_reducible refine HS.mono ?_); rintro e w8 ⟨rfl, g1, g2, g3⟩; have H8 := tmh (And.intro g1 (And.intro g2 g3)); clear g1 g2 g3)
        exact ⟨⟨i + 1, rfl, by have := HR.out.2.2; omega, hlt, H8.out.1, HR.out.1.trans H8.out.2.1, fun j hj hj2 => (H8.out.2.2 j g 0 rfl hj).trans (HR.out.2.1 j hj hj2)⟩, hm⟩
      · have d1 : decide ((i : Int) < (D : Int)) = false := by simp; omega
        have d2 : decide (i < D) = false := by simp; omega
        obtain rfl : i = D := by omega
        have hsp : stpsP P c (i - c) = stpsP P c (s - 1) := by rw [show i - c = s - 1 by have := HT.out.2.2.2.1; omega]
        rw [hsp] at hT
        obtain ⟨y0, y1, y2, y3⟩ := hT.cells
        rw [stpsP_n] at y2
        have hin : i < (stpsP P c (s - 1)).n := by rw [stpsP_n]; exact HT.out.2.2.2.2.2.1
        obtain ⟨⟨x0, x1, x2⟩, hfz⟩ := hT.ins hin
        have f0 := hfz (i * 3)
        have f1 := hfz (i * 3 + 1)
        have f2 := hfz (i * 3 + 2)
        have k0 : (0 : Int) ≤ (i : Int) := by omega
        have k1 : (i : Int) < (P.n : Int) := by have := HT.out.2.2.2.2.2.1; omega
        have b1 : wr.cell? ⟨w6.heap.size, 1, none⟩ = some (.slice (some ⟨wg, 0, none⟩) 1 wc) := by
          unfold World.cell?
          rw [hkr _ HT.out.2.2.1.2.1 HT.out.2.2.1.2.2.2, H7.out.2.2.1, HC0.out.2]
          rfl
        have b2 : wr.cell? ⟨wg, 0, none⟩ = some (.int .i64 ((effQ Q).wd 0)) := by
          have := HT.out.2.1
          unfold World.cell? at this ⊢
          rw [hkr _ HT.out.2.2.1.1 HT.out.2.2.1.2.2.1]
          exact this
        have hTd : TD Sf Hf wr.drew base tb (stpsP P c (s - 1)) (some ⟨g, 0, none⟩) ep cc ec := hT.later (Below.refl _ wr).drew
        have hTS := hTd.setI i 1 ((effQ Q).wd 0) 0
        have e3 : ((wr.drew.setCell ⟨g, i * 3, none⟩ (.int .i64 1)).setCell ⟨g, i * 3 + 1, none⟩ (.int .i64 ((effQ Q).wd 0))).setCell ⟨g, i * 3 + 2, none⟩ (.int .i64 0) = wr.drew.setCells g (i * 3) [.int .i64 1, .int .i64 ((effQ Q).wd 0), .int .i64 0] := rfl
        rw [← e3] at hTS
        have hbd : Below base W (((wr.drew.setCell ⟨g, i * 3, none⟩ (.int .i64 1)).setCell ⟨g, i * 3 + 1, none⟩ (.int .i64 ((effQ Q).wd 0))).setCell ⟨g, i * 3 + 2, none⟩ (.int .i64 0)) := ((hbr.drew.setCell (p := ⟨g, i * 3, none⟩) hTd.gb.1 _).setCell (p := ⟨g, i * 3 + 1, none⟩) hTd.gb.1 _).setCell (p := ⟨g, i * 3 + 2, none⟩) hTd.gb.1 _
        have hkg : KgP (some ⟨g, 0, none⟩) W (((wr.drew.setCell ⟨g, i * 3, none⟩ (.int .i64 1)).setCell ⟨g, i * 3 + 1, none⟩ (.int .i64 ((effQ Q).wd 0))).setCell ⟨g, i * 3 + 2, none⟩ (.int .i64 0)) := fun j hj hj2 => by
          have hj3 := hj g 0 rfl
          exact ((((Below.heap_setCell _ _ _ _ hj3).trans (Below.heap_setCell _ _ _ _ hj3)).trans (Below.heap_setCell _ _ _ _ hj3)).trans (hkr j hj3 (Nat.lt_of_lt_of_le hj2 H7.out.1.size))).trans (H7.out.1.block j hj2)
        have HE := tmh (And.intro hTS (And.intro hbd (And.intro HT.out.2.2.2.1 hkg)))
        clear hTS hbd hkg hTd e3 hT hbr hkr hfz hsp hi1 hi2 hlt hin
        go_wp2_with fail
        go_region
        all_goals (go_wp2_with fail)
        all_goals go_ret
        all_goals exact ⟨.inl ⟨HC0.out.1, rfl, by rw [HE.out.2.2.1]; exact HE.out.1⟩, HE.out.2.1, HE.out.2.2.2⟩
  · have hc0 : (effQ Q).code ≠ 0 := by simpa using ec0
    have ec1 : ((effQ Q).code != 0) = true := by simp [bne, ec0]
    have HC0 := tmh hc0
    clear hc0 y0 y1 y2 y3
    go_wp2_with fail
    go_ret
    exact ⟨.inr ⟨HC0.out, rfl, H0.out.1.later H7.out.1⟩, H7.out.1.mono H0.out.2.1, fun j _ hj => H7.out.1.block j hj⟩
end Go.Proofs.YtopggemomcoalaaGreat
namespace Go.Proofs.YtopggemomcoalaaGreat
open Go.ChangeShapes Go.WideShapes Go.ChangeAt Go.RowKit
set_option linter.unusedVariables false
set_option linter.unusedSimpArgs false

/-! ### foldAt -/
def q2 (o x y : Int) : Pg := { words := 1, locals := 0, n := 5, m := 1, en := fun _ => 0, op := fun k => if k = 0 then 1 else if k = 1 then 1 else if k = 2 then o else if k = 3 then 4 else 0, a := fun k => if k = 0 then x else if k = 1 then y else 0, b := fun _ => 0 }
def q1 (o x : Int) : Pg := { words := 1, locals := 0, n := 4, m := 1, en := fun _ => 0, op := fun k => if k = 0 then 1 else if k = 1 then o else if k = 2 then 4 else 0, a := fun k => if k = 0 then x else 0, b := fun _ => 0 }
noncomputable def R2f (o x y : Int) : Option Int := if (effQ (q2 o x y)).code = 0 then some ((effQ (q2 o x y)).wd 0) else none
noncomputable def R1f (o x : Int) : Option Int := if (effQ (q1 o x)).code = 0 then some ((effQ (q1 o x)).wd 0) else none
theorem plainB {P : Pg} {i : Nat} (h : insE P i = 0) (hw : wantsI (P.op i) ≠ 2) : P.b i = 0 := by
  have hg := (ins_good h).1
  unfold insE insErr at h
  by_cases hb : P.b i = 0
  · exact hb
  · rw [if_neg (by simpa using hg), if_neg hw, if_pos hb] at h
    cases h
theorem plainA {P : Pg} {i : Nat} (h : insE P i = 0) (hw : wantsI (P.op i) ≠ 2) (h1 : P.op i ≠ 1) (hl : limI P (P.op i) = 1) : P.a i = 0 := by
  have hg := (ins_good h).1
  have hb := plainB h hw
  unfold insE insErr at h
  rw [if_neg (by simpa using hg), if_neg hw, if_neg (by simpa using hb), hl] at h
  by_cases h2 : P.op i = 1 ∨ (0 ≤ P.a i ∧ P.a i ≤ 1 - 1)
  · rcases h2 with h2 | h2
    · exact absurd h2 h1
    · omega
  · rw [if_neg h2] at h
    split at h <;> cases h
theorem two2_pl {P : Pg} {o : Int} (h : two2 o = true) : wantsI o ≠ 2 ∧ o ≠ 1 ∧ limI P o = 1 := by
  have h1 : o = 13 ∨ o = 14 ∨ o = 15 ∨ o = 16 ∨ o = 17 ∨ o = 18 ∨ o = 19 ∨ o = 20 ∨ o = 21 ∨ o = 22 ∨ o = 26 ∨ o = 27 ∨ o = 28 ∨ o = 29 ∨ o = 30 ∨ o = 31 ∨ o = 32 ∨ o = 33 := by
    unfold two2 at h
    simp at h
    omega
  refine ⟨?_, by omega, ?_⟩
  · rcases h1 with rfl | rfl | rfl | rfl | rfl | rfl | rfl | rfl | rfl | rfl | rfl | rfl | rfl | rfl | rfl | rfl | rfl | rfl <;> decide
  · unfold limI
    rw [if_neg (by omega), if_neg (by omega), if_neg (by omega), if_neg (by omega), if_neg (by omega)]
theorem one1_pl {P : Pg} {o : Int} (h : one1 o = true) : wantsI o ≠ 2 ∧ o ≠ 1 ∧ limI P o = 1 := by
  have h1 : o = 23 ∨ o = 24 ∨ o = 25 ∨ o = 34 := by
    unfold one1 at h
    simp at h
    omega
  refine ⟨?_, by omega, ?_⟩
  · rcases h1 with rfl | rfl | rfl | rfl <;> decide
  · unfold limI
    rw [if_neg (by omega), if_neg (by omega), if_neg (by omega), if_neg (by omega), if_neg (by omega)]
theorem q2_of {P : Pg} {L : Nat → Int} {c : Nat} (v : Vf P L) (ha : ∀ i, i < P.n → In64 (P.a i)) (hc : c + 2 < P.n) (h1 : P.op c = 1) (h2 : P.op (c + 1) = 1) (h3 : two2 (P.op (c + 2)) = true) : QOf P (q2 (P.op (c + 2)) (P.a c) (P.a (c + 1))) c 3 := by
  have b0 := plainB (v.ins c (by omega)) (by rw [h1]; decide)
  have b1 := plainB (v.ins (c + 1) (by omega)) (by rw [h2]; decide)
  obtain ⟨p1, p2, p3⟩ := two2_pl (P := P) h3
  have b2 := plainB (v.ins (c + 2) hc) p1
  have a2 := plainA (v.ins (c + 2) hc) p1 p2 p3
  refine ⟨rfl, rfl, rfl, rfl, rfl, fun k hk => ?_, ⟨rfl, rfl, rfl⟩, ⟨rfl, rfl, rfl⟩, fun i hi => ?_⟩
  · rcases (by omega : k = 0 ∨ k = 1 ∨ k = 2) with rfl | rfl | rfl
    · exact ⟨h1.symm, rfl, b0.symm⟩
    · exact ⟨h2.symm, rfl, b1.symm⟩
    · exact ⟨rfl, a2.symm, b2.symm⟩
  · show In64 (if i = 0 then P.a c else if i = 1 then P.a (c + 1) else 0)
    split
    · exact ha c (by omega)
    · split
      · exact ha (c + 1) (by omega)
      · exact in64_0
theorem q1_of {P : Pg} {L : Nat → Int} {c : Nat} (v : Vf P L) (ha : ∀ i, i < P.n → In64 (P.a i)) (hc : c + 1 < P.n) (h1 : P.op c = 1) (h2 : one1 (P.op (c + 1)) = true) : QOf P (q1 (P.op (c + 1)) (P.a c)) c 2 := by
  have b0 := plainB (v.ins c (by omega)) (by rw [h1]; decide)
  obtain ⟨p1, p2, p3⟩ := one1_pl (P := P) h2
  have b1 := plainB (v.ins (c + 1) hc) p1
  have a1 := plainA (v.ins (c + 1) hc) p1 p2 p3
  refine ⟨rfl, rfl, rfl, rfl, rfl, fun k hk => ?_, ⟨rfl, rfl, rfl⟩, ⟨rfl, rfl, rfl⟩, fun i hi => ?_⟩
  · rcases (by omega : k = 0 ∨ k = 1) with rfl | rfl
    · exact ⟨h1.symm, rfl, b0.symm⟩
    · exact ⟨rfl, a1.symm, b1.symm⟩
  · show In64 (if i = 0 then P.a c else 0)
    split
    · exact ha c (by omega)
    · exact in64_0
end Go.Proofs.YtopggemomcoalaaGreat
