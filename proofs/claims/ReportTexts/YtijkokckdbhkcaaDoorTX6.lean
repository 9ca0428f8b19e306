import Derived.Test.YtijkokckdbhkcaaDoorTX4
import Derived.Test.YtijkokckdbhkcaaDoorTX5
namespace Go.Proofs.YtijkokckdbhkcaaDoor
open Go.ChangeShapes Go.WideShapes Go.ChangeAt Go.RowKit Go.Sort
set_option linter.unusedVariables false
set_option linter.unusedSimpArgs false

def wsum (A : Nat → Sa) : Nat → Nat
  | 0 => 0
  | n + 1 => wsum A n + (A n).n
theorem wsum_mono (A : Nat → Sa) {i : Nat} : ∀ {n : Nat}, i ≤ n → wsum A i ≤ wsum A n
  | 0, h => by rw [show i = 0 by omega]; exact Nat.le_refl _
  | n + 1, h => by
    by_cases e : i = n + 1
    · rw [e]; exact Nat.le_refl _
    · have := wsum_mono A (n := n) (show i ≤ n by omega)
      show wsum A i ≤ wsum A n + (A n).n
      omega
def ssB (A : Nat → Sa) (K : Nat → Nat → Int) : Nat → List UInt8
  | 0 => []
  | n + 1 => ssB A K n ++ stB n (A n).n (K n) (A n).d.toNat (A n).s.toNat
def evB (X : Nat → Se) : Nat → List UInt8
  | 0 => []
  | n + 1 => evB X n ++ (txt (X n).t.toNat (X n).q.toNat (X n).s (X n).d (X n).k (X n).v ++ [10])
def StOk (a : Sa) (K : Nat → Int) : Prop := (0 ≤ a.d ∧ a.d < 18446744073709551616) ∧ (0 ≤ a.s ∧ a.s < 18446744073709551616) ∧ ∀ j, j < a.n → I64 (K j)
theorem ssB_len {A : Nat → Sa} {K : Nat → Nat → Int} : ∀ {n : Nat}, n ≤ 9223372036854775807 → (∀ j, j < n → StOk (A j) (K j)) → (ssB A K n).length ≤ 22 * wsum A n + 80 * n
  | 0, _, _ => by simp [ssB]
  | n + 1, hn, h => by
    have h1 := ssB_len (A := A) (K := K) (n := n) (by omega) fun j hj => h j (by omega)
    obtain ⟨⟨a1, a2⟩, ⟨a3, a4⟩, h3⟩ := h n (by omega)
    have h4 := stB_len n (A n).n (K n) (A n).d.toNat (A n).s.toNat (show I64 (n : Int) from ⟨by omega, by omega⟩) h3 (by omega) (by omega)
    simp only [ssB, wsum, List.length_append]
    omega
theorem evB_len {X : Nat → Se} : ∀ {n : Nat}, (∀ j, j < n → SeOk (X j)) → (evB X n).length ≤ 131 * n
  | 0, _ => by simp [evB]
  | n + 1, h => by
    have h1 := evB_len (X := X) (n := n) fun j hj => h j (by omega)
    obtain ⟨⟨a1, a2⟩, h2, ⟨a3, a4⟩, h4, h5, h6⟩ := h n (by omega)
    have h7 := txt_len (X n).t.toNat (X n).q.toNat (X n).s (X n).d (X n).k (X n).v (by omega) (by omega) h2 h4 h5 h6
    simp only [evB, List.length_append, List.length_singleton]
    omega
theorem ssB_congr {A C : Nat → Sa} {K : Nat → Nat → Int} : ∀ {n : Nat}, SaEq n A C → ssB C K n = ssB A K n ∧ wsum C n = wsum A n
  | 0, _ => ⟨rfl, rfl⟩
  | n + 1, h => by
    obtain ⟨h1, h2⟩ := ssB_congr (A := A) (C := C) (K := K) (n := n) fun j hj => h j (by omega)
    obtain ⟨e1, e2, e3⟩ := h n (by omega)
    simp only [ssB, wsum, h1, h2, e1, e2, e3, and_self]
theorem br_conv {B : Nat} {W : World} {v : Value} {l : List UInt8} (h : BR B W v l) (hl : 0 < l.length) : ∃ g cap, v = .slice (some ⟨g, 0, none⟩) l.length cap ∧ (convert 33 9 (.slice (some ⟨g, 0, none⟩) l.length cap)).run Tryd.prog W = .ok (.string ⟨l.toArray⟩) W := by
  obtain ⟨g, cap, hv, hg1, hg2⟩ := World.ownsRow.form h hl
  refine ⟨g, cap, hv, ?_⟩
  have ho : W.ownsRow B 5 1 (.slice (some ⟨g, 0, none⟩) l.length cap) l.length (Lib.byteCells l) := by rw [← hv]; exact h
  exact run_convert_bytes_back (P := Tryd.prog) W 33 9 5 ⟨g, 0, none⟩ cap l Tryd.underlying33 Tryd.underlying5 Tryd.underlying9 (by
      intro j hj
      have e : (⟨g, 0, none⟩ : Addr).add j = ⟨g, j, none⟩ := by
        unfold Addr.add
        by_cases hi : j = 0 <;> simp [hi]
      rw [e, ho.cellAt j (by omega)]
      simp [Lib.byteCells, hj])
def resB (k c : Int) (t : Nat) (s : Int) (q : Nat) (m : Int) (A : Nat → Sa) (K : Nat → Nat → Int) (n : Nat) (X : Nat → Se) (nx : Nat) : List UInt8 := outB k c t s q m ++ ([10, 101, 118, 101, 110, 116, 115, 32] ++ (Lib.itoa nx ++ ([10] ++ (ssB A K n ++ evB X nx))))
set_option maxRecDepth 100000 in
set_option maxHeartbeats 8000000 in
theorem rtext_any (t q : Nat) (k c s m : Int) (y x : Option Addr) (n cy nx cx : Nat) (A : Nat → Sa) (K : Nat → Nat → Int) (X : Nat → Se) (hk : I64 k) (hc : I64 c) (ht : t < 18446744073709551616) (hs : I64 s) (hq : q < 18446744073709551616) (hm : I64 m) (hn : n * 40 ≤ 140737488355328) (hw : ∀ j, j < n → (A j).n ≤ 17592186044416) (hnx : nx ≤ 2932031007402) (hA : ∀ j, j < n → StOk (A j) (K j)) (hX : ∀ j, j < nx → SeOk (X j)) (w : World) (h : SsAt w y n A K) (h' : SIn w x nx X) (hlim : 22 * wsum A n + 80 * n + 131 * nx + 600 ≤ 140737488355328) (htab : Lib.TabIs Tryd.prog w "internal/strconv.uint64pow10" .u64 Lib.pow10Tab) :
    Calls Tryd.prog 4 #[.agg #[.int .i64 k, .int .i64 c, .int .u64 t, .int .i64 s, .int .u64 q, .int .i64 m, .slice y n cy, .slice x nx cx]] w fun e w' => e = .returned (bst (resB k c t s q m A K n X nx)) ∧ Below w.heap.size w w' := by
  have HT : Hid (Tb w.heap.size w) := Lib.tabBelow_of_tabIs htab
  have HS := hid h
  have HXS := hid h'
  have HA := hid hA
  have HSe := hid hX
  have HWn := hid hw
  have lo := lenB_out k c t s q m hk hc ht hs hq hm
  have ln := itoa_len nx (by omega) (by omega)
  have f0 : Fr w.heap.size w (w.alloc (.cells #[.int .i64 k, .int .i64 c, .int .u64 t, .int .i64 s, .int .u64 q, .int .i64 m, .slice y n cy, .slice x nx cx] 29)) := Fr.alloc (Nat.le_refl _) _
  have k0 : (w.alloc (.cells #[.int .i64 k, .int .i64 c, .int .u64 t, .int .i64 s, .int .u64 q, .int .i64 m, .slice y n cy, .slice x nx cx] 29)).heap[w.heap.size]? = some (.cells #[.int .i64 k, .int .i64 c, .int .u64 t, .int .i64 s, .int .u64 q, .int .i64 m, .slice y n cy, .slice x nx cx] 29 (0, 0)) := heap_alloc_new _ _
  obtain ⟨c0, c1, c2, c3, c4, c5, c6, c7⟩ := cells8k k0
  have HX := apO_any w.heap.size t q k c s m (.slice y n cy) (.slice x nx cx) hk hc ht hs hq hm (.slice none 0 0) [] _ (br_nil _ _) f0.size (by simp) (HT.out.on f0.bel)
  have K0 := hid k0
  have F0 := hid f0
  clear h h' hA hX hw htab k0 f0
  go_enter Tryd.func4, Tryd.ntmps4
  go_wp2_with (go_at_call 7; (with_reducible refine HX.mono ?_))
  rintro e w1 ⟨v1, rfl, b1, f1⟩
  have F1 := hid (F0.out.trans f1)
  have K1 := hid (f1.block K0.out tyRs)
  clear c0 c1 c2 c3 c4 c5 c6 c7 HX K0 F0 f1
  obtain ⟨c0, c1, c2, c3, c4, c5, c6, c7⟩ := cells8k K1.out
  have HX := apN_any w.heap.size [10, 101, 118, 101, 110, 116, 115, 32] nx ⟨by omega, by omega⟩ v1 _ w1 b1 F1.out.size (by simp; omega) (HT.out.on F1.out.bel)
  clear b1
  go_wp2_with (go_at_call 8; (with_reducible refine HX.mono ?_))
  rintro e w2 ⟨v2, rfl, b2, f2⟩
  have F2 := hid (F1.out.trans f2)
  have K2 := hid (f2.block K1.out tyRs)
  clear c0 c1 c2 c3 c4 c5 c6 c7 HX K1 F1 f2
  go_wp2_with (at_builtin; refine app_one rfl _ _ rfl w.heap.size v2 _ rfl b2 10 10 rfl rfl (by simp; omega) F2.out.size ?_)
  intro v3 w3 b3 f3
  have F3 := hid (F2.out.trans f3)
  have K3 := hid (f3.block K2.out tyRs)
  obtain ⟨c0, c1, c2, c3, c4, c5, c6, c7⟩ := cells8k K3.out
  have B3 := hid b3
  clear b2 b3 f3 K2 F2
  go_wp2_with fail
  clear c0 c1 c2 c3 c4 c5 c6 c7
  go_loopw [3, 21] (fun r z wr => ∃ j : Nat, z = .int .i64 (j : Int) ∧ j ≤ n ∧ BR w.heap.size wr r ([] ++ outB k c t s q m ++ ([10, 101, 118, 101, 110, 116, 115, 32] ++ Lib.itoa nx) ++ [10] ++ ssB A K j) ∧ Fr w.heap.size w3 wr) (fun _ z _ => n - (intOf z).toNat)
  case atStart => exact ⟨0, rfl, Nat.zero_le _, by simpa [ssB] using B3.out, Fr.refl _ _⟩
  case round =>
    obtain ⟨j, rfl, hj, b4, f4⟩ := hrel
    have lj := ssB_len (A := A) (K := K) (n := j) (by omega) fun a ha => HA.out a (by omega)
    have lm := wsum_mono A hj
    have F4 := hid (F3.out.trans f4)
    by_cases hlt : j < n
    case pos =>
      have dlt : decide ((j : Int) < (n : Int)) = true := by simp; omega
      have i0 : (0 : Int) ≤ (j : Int) := by omega
      have i1 : (j : Int) < (n : Int) := by omega
      have ei : IntKind.i64.wrap ((j : Int) + 1) = (j : Int) + 1 := by rw [IntKind.wrap_i64]; omega
      have hme := meas hlt
      obtain hz | ⟨g, o, hp, hl, hcc, hkw⟩ := HS.out.below F4.out.bel
      · omega
      obtain ⟨x0, x1, x2⟩ := hcc j hlt
      obtain hz | ⟨g', o', hp', hl', hcc', hkw'⟩ := HS.out
      · omega
      obtain ⟨⟨a1, a2⟩, ⟨a3, a4⟩, a5⟩ := HA.out j hlt
      obtain ⟨dN, hdN⟩ : ∃ dN : Nat, (A j).d = dN := ⟨(A j).d.toNat, by omega⟩
      obtain ⟨sN, hsN⟩ : ∃ sN : Nat, (A j).s = sN := ⟨(A j).s.toNat, by omega⟩
      have HD : Hid ((A j).d.toNat = dN ∧ (A j).s.toNat = sN) := ⟨by omega, by omega⟩
      have hwj := HWn.out j hlt
      have lm1 := wsum_mono A (show j + 1 ≤ n from hlt)
      rw [show wsum A (j + 1) = wsum A j + (A j).n from rfl] at lm1
      rw [hdN] at x1 a2
      rw [hsN] at x2 a4
      have fa : Fr w.heap.size wr (wr.alloc (.cells #[.slice (A j).p (A j).n (A j).c, .int .u64 dN, .int .u64 sN] 38)) := Fr.alloc F4.out.size _
      have HX := apS_any w (A j).p (A j).n (A j).c (K j) j dN sN hwj a5 ⟨by omega, by omega⟩ (by omega) (by omega) _ _ (wr.alloc (.cells #[.slice (A j).p (A j).n (A j).c, .int .u64 dN, .int .u64 sN] 38)) (F4.out.trans fa).bel (hkw' j hlt) (b4.alloc _) (by simp; omega) (HT.out.on (F4.out.trans fa).bel)
      have FA := hid (f4.trans fa)
      have HP := hid hp'
      rw [hp]
      clear hcc hkw hcc' hkw' hl hl' hp hp' hdN hsN a1 a2 a3 a4 a5 fa f4 b4
      go_wp2_with (go_at_call 9; (with_reducible refine HX.mono ?_))
      rintro e w5 ⟨v5, rfl, b5, f5⟩
      have G5 := hid (FA.out.trans f5)
      have B5 := hid b5
      clear b5 f5 HX
      go_wp2_with fail
      exact ⟨⟨j + 1, rfl, hlt, by rw [ssB, HD.out.1, HD.out.2]; simpa using B5.out, G5.out⟩, hme⟩
    case neg =>
      have dlt : decide ((j : Int) < (n : Int)) = false := by simp; omega
      obtain rfl : j = n := by omega
      have K4 := hid (f4.block K3.out tyRs)
      obtain ⟨c0, c1, c2, c3, c4, c5, c6, c7⟩ := cells8k K4.out
      have B4 := hid b4
      clear f4 b4
      go_wp2_with fail
      clear c0 c1 c2 c3 c4 c5 c6 c7
      go_loopw [3, 34] (fun r z wt => ∃ i : Nat, z = .int .i64 (i : Int) ∧ i ≤ nx ∧ BR w.heap.size wt r ([] ++ outB k c t s q m ++ ([10, 101, 118, 101, 110, 116, 115, 32] ++ Lib.itoa nx) ++ [10] ++ ssB A K j ++ evB X i) ∧ Fr w.heap.size wr wt) (fun _ z _ => nx - (intOf z).toNat)
      case atStart => exact ⟨0, rfl, Nat.zero_le _, by simpa [evB] using B4.out, Fr.refl _ _⟩
      case round =>
        obtain ⟨i, rfl, hi, b5, f5⟩ := hrel
        have li := evB_len (X := X) (n := i) fun a ha => HSe.out a (by omega)
        have F5 := hid (F4.out.trans f5)
        by_cases hlt : i < nx
        case pos =>
          have dlt : decide ((i : Int) < (nx : Int)) = true := by simp; omega
          have i0 : (0 : Int) ≤ (i : Int) := by omega
          have i1 : (i : Int) < (nx : Int) := by omega
          have ei : IntKind.i64.wrap ((i : Int) + 1) = (i : Int) + 1 := by rw [IntKind.wrap_i64]; omega
          have hme := meas hlt
          obtain ⟨g, o, hp, hl, x0, x1, x2, x3, x4, x5⟩ := (HXS.out.below F5.out.bel).at hlt
          obtain ⟨⟨a1, a2⟩, a3, ⟨a4, a5⟩, a6, a7, a8⟩ := HSe.out i hlt
          obtain ⟨tN, htN⟩ : ∃ tN : Nat, (X i).t = tN := ⟨(X i).t.toNat, by omega⟩
          obtain ⟨qN, hqN⟩ : ∃ qN : Nat, (X i).q = qN := ⟨(X i).q.toNat, by omega⟩
          have HD : Hid ((X i).t.toNat = tN ∧ (X i).q.toNat = qN) := ⟨by omega, by omega⟩
          rw [htN] at x0 a2
          rw [hqN] at x2 a5
          have fa : Fr w.heap.size wr (wr.alloc (.cells #[.int .u64 tN, .int .i64 (X i).s, .int .u64 qN, .int .i64 (X i).d, .int .i64 (X i).k, .int .i64 (X i).v] 41)) := Fr.alloc F5.out.size _
          have HX := apE_any w.heap.size tN qN (X i).s (X i).d (X i).k (X i).v (by omega) (by omega) a3 a6 a7 a8 _ _ (wr.alloc (.cells #[.int .u64 tN, .int .i64 (X i).s, .int .u64 qN, .int .i64 (X i).d, .int .i64 (X i).k, .int .i64 (X i).v] 41)) (b5.alloc _) (F5.out.trans fa).size (by simp; omega) (HT.out.on (F5.out.trans fa).bel)
          have FA := hid (f5.trans fa)
          rw [hp]
          clear hl hp htN hqN a1 a2 a3 a4 a5 a6 a7 a8 fa f5 b5
          go_wp2_with (go_at_call 10; (with_reducible refine HX.mono ?_))
          rintro e w6 ⟨v6, rfl, b6, f6⟩
          have G6 := hid (FA.out.trans f6)
          have B6 := hid b6
          clear b6 f6 HX
          go_wp2_with fail
          exact ⟨⟨i + 1, rfl, hlt, by rw [evB, HD.out.1, HD.out.2]; simpa using B6.out, G6.out⟩, hme⟩
        case neg =>
          have dlt : decide ((i : Int) < (nx : Int)) = false := by simp; omega
          obtain rfl : i = nx := by omega
          have eL : [] ++ outB k c t s q m ++ ([10, 101, 118, 101, 110, 116, 115, 32] ++ Lib.itoa i) ++ [10] ++ ssB A K j ++ evB X i = resB k c t s q m A K j X i := by simp [resB]
          have hpos : 0 < (resB k c t s q m A K j X i).length := by simp [resB]; omega
          obtain ⟨L, hL⟩ : ∃ L, resB k c t s q m A K j X i = L := ⟨_, rfl⟩
          rw [eL, hL] at b5
          rw [hL] at hpos
          obtain ⟨g, cap, rfl, hcv⟩ := br_conv b5 hpos
          have HL := hid hL
          clear b5 eL hL
          go_wp2_with fail
          go_ret
          rw [HL.out]
          exact ⟨rfl, F5.out.bel⟩
end Go.Proofs.YtijkokckdbhkcaaDoor
