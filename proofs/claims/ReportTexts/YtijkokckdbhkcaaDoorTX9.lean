import Derived.Test.YtijkokckdbhkcaaDoorTX8
namespace Go.Proofs.YtijkokckdbhkcaaDoor
open Go.ChangeShapes Go.WideShapes Go.ChangeAt Go.RowKit Go.Sort
set_option linter.unusedVariables false
set_option linter.unusedSimpArgs false

set_option maxRecDepth 100000 in
set_option maxHeartbeats 40000000 in
theorem rtext17_any (t q : Nat) (k c s m : Int) (y x : Option Addr) (n cy nx cx : Nat) (A : Nat → Sa) (K : Nat → Nat → Int) (X : Nat → Se) (hk : I64 k) (hc : I64 c) (ht : t < 18446744073709551616) (hs : I64 s) (hq : q < 18446744073709551616) (hm : I64 m) (hn : n * 40 ≤ 140737488355328) (hw : ∀ j, j < n → (A j).n ≤ 17592186044416) (hnx : nx ≤ 2932031007402) (hA : ∀ j, j < n → StOk (A j) (K j)) (hX : ∀ j, j < nx → SeOk (X j)) (w : World) (h : SsAt w y n A K) (h' : SIn w x nx X) (hlim : 22 * wsum A n + 80 * n + 131 * nx + 600 ≤ 140737488355328) (htab : Lib.TabIs Tryd.prog w "internal/strconv.uint64pow10" .u64 Lib.pow10Tab) :
    Calls Tryd.prog 6 #[.agg #[.int .i64 k, .int .i64 c, .int .u64 t, .int .i64 s, .int .u64 q, .int .i64 m, .slice y n cy, .slice x nx cx]] w fun e w' => e = .returned (bst (resB k c t s q m A K n X nx)) ∧ Below w.heap.size w w' := by
  have HT := hid htab
  have HS := hid h
  have HXS := hid h'
  have HA := hid hA
  have HSe := hid hX
  have HWn := hid hw
  have l1 := itoa_len c hc.1 (by have := hc.2; omega)
  have l2 := itoa_len m hm.1 (by have := hm.2; omega)
  have l3 := lenB_key t s q ht hs hq
  obtain ⟨y1, e1⟩ : ∃ x, [102, 97, 117, 108, 116, 32] ++ Lib.itoa c = x := ⟨_, rfl⟩
  obtain ⟨y2, e2⟩ : ∃ x, y1 ++ [32, 97, 116, 32] = x := ⟨_, rfl⟩
  obtain ⟨y3, e3⟩ : ∃ x, y2 ++ keyB t s q = x := ⟨_, rfl⟩
  obtain ⟨y4, e4⟩ : ∃ x, [114, 101, 115, 111, 117, 114, 99, 101, 32] ++ Lib.itoa m = x := ⟨_, rfl⟩
  obtain ⟨y6, e6⟩ : ∃ x, [114, 101, 106, 101, 99, 116, 101, 100, 32] ++ Lib.itoa c = x := ⟨_, rfl⟩
  have n1 := congrArg List.length e1
  have n2 := congrArg List.length e2
  have n3 := congrArg List.length e3
  simp only [List.length_append, List.length_cons, List.length_nil] at n1 n2 n3
  have a1 := sadd _ _ _ e1 (by simp; omega)
  have a2 := sadd _ _ _ e2 (by simp; omega)
  have a3 := sadd _ _ _ e3 (by omega)
  have a4 := sadd _ _ _ e4 (by simp; omega)
  have a6 := sadd _ _ _ e6 (by simp; omega)
  have HE : Hid (y3 = [102, 97, 117, 108, 116, 32] ++ Lib.itoa c ++ ([32, 97, 116, 32] ++ keyB t s q) ∧ y4 = [114, 101, 115, 111, 117, 114, 99, 101, 32] ++ Lib.itoa m ∧ y6 = [114, 101, 106, 101, 99, 116, 101, 100, 32] ++ Lib.itoa c) := ⟨by rw [← e3, ← e2, ← e1]; simp, e4.symm, e6.symm⟩
  clear e1 e2 e3 e4 e6 n1 n2 n3 l1 l2 l3 h h' hA hX hw htab
  go_enter Tryd.func6, Tryd.ntmps6
  go_upto_region 1 with fail
  go_cut [3] (fun v wc => ∃ g, v = .pointer (some ⟨g, 0, none⟩) ∧ wc.heap[g]? = some (.cells #[.string ⟨#[]⟩, .string ⟨#[100, 111, 110, 101]⟩, .string ⟨#[99, 117, 116]⟩, .string ⟨y3.toArray⟩, .string ⟨y4.toArray⟩, .string ⟨#[117, 110, 102, 105, 110, 105, 115, 104, 101, 100]⟩, .string ⟨y6.toArray⟩] 47 (0, 0)) ∧ (wc.cell? ⟨w.heap.size, 0, none⟩ = some (.int .i64 k) ∧ wc.cell? ⟨w.heap.size, 1, none⟩ = some (.int .i64 c) ∧ wc.cell? ⟨w.heap.size, 2, none⟩ = some (.int .u64 t) ∧ wc.cell? ⟨w.heap.size, 3, none⟩ = some (.int .i64 s) ∧ wc.cell? ⟨w.heap.size, 4, none⟩ = some (.int .u64 q) ∧ wc.cell? ⟨w.heap.size, 5, none⟩ = some (.int .i64 m) ∧ wc.cell? ⟨w.heap.size, 6, none⟩ = some (.slice y n cy) ∧ wc.cell? ⟨w.heap.size, 7, none⟩ = some (.slice x nx cx) ∧ w.heap.size < wc.heap.size ∧ Below w.heap.size w wc))
  case first =>
    rename_i J K' hJ hK
    have k0 : (w.alloc (.cells #[.int .i64 k, .int .i64 c, .int .u64 t, .int .i64 s, .int .u64 q, .int .i64 m, .slice y n cy, .slice x nx cx] 29)).drew.heap[w.heap.size]? = some (.cells #[.int .i64 k, .int .i64 c, .int .u64 t, .int .i64 s, .int .u64 q, .int .i64 m, .slice y n cy, .slice x nx cx] 29 (0, 0)) := heap_alloc_new _ _
    obtain ⟨c0, c1, c2, c3, c4, c5, c6, c7⟩ := cells8k k0
    have KP0 : ((w.alloc (.cells #[.int .i64 k, .int .i64 c, .int .u64 t, .int .i64 s, .int .u64 q, .int .i64 m, .slice y n cy, .slice x nx cx] 29)).drew.cell? ⟨w.heap.size, 0, none⟩ = some (.int .i64 k) ∧ (w.alloc (.cells #[.int .i64 k, .int .i64 c, .int .u64 t, .int .i64 s, .int .u64 q, .int .i64 m, .slice y n cy, .slice x nx cx] 29)).drew.cell? ⟨w.heap.size, 1, none⟩ = some (.int .i64 c) ∧ (w.alloc (.cells #[.int .i64 k, .int .i64 c, .int .u64 t, .int .i64 s, .int .u64 q, .int .i64 m, .slice y n cy, .slice x nx cx] 29)).drew.cell? ⟨w.heap.size, 2, none⟩ = some (.int .u64 t) ∧ (w.alloc (.cells #[.int .i64 k, .int .i64 c, .int .u64 t, .int .i64 s, .int .u64 q, .int .i64 m, .slice y n cy, .slice x nx cx] 29)).drew.cell? ⟨w.heap.size, 3, none⟩ = some (.int .i64 s) ∧ (w.alloc (.cells #[.int .i64 k, .int .i64 c, .int .u64 t, .int .i64 s, .int .u64 q, .int .i64 m, .slice y n cy, .slice x nx cx] 29)).drew.cell? ⟨w.heap.size, 4, none⟩ = some (.int .u64 q) ∧ (w.alloc (.cells #[.int .i64 k, .int .i64 c, .int .u64 t, .int .i64 s, .int .u64 q, .int .i64 m, .slice y n cy, .slice x nx cx] 29)).drew.cell? ⟨w.heap.size, 5, none⟩ = some (.int .i64 m) ∧ (w.alloc (.cells #[.int .i64 k, .int .i64 c, .int .u64 t, .int .i64 s, .int .u64 q, .int .i64 m, .slice y n cy, .slice x nx cx] 29)).drew.cell? ⟨w.heap.size, 6, none⟩ = some (.slice y n cy) ∧ (w.alloc (.cells #[.int .i64 k, .int .i64 c, .int .u64 t, .int .i64 s, .int .u64 q, .int .i64 m, .slice y n cy, .slice x nx cx] 29)).drew.cell? ⟨w.heap.size, 7, none⟩ = some (.slice x nx cx) ∧ w.heap.size < (w.alloc (.cells #[.int .i64 k, .int .i64 c, .int .u64 t, .int .i64 s, .int .u64 q, .int .i64 m, .slice y n cy, .slice x nx cx] 29)).drew.heap.size ∧ Below w.heap.size w (w.alloc (.cells #[.int .i64 k, .int .i64 c, .int .u64 t, .int .i64 s, .int .u64 q, .int .i64 m, .slice y n cy, .slice x nx cx] 29)).drew) := ⟨c0, c1, c2, c3, c4, c5, c6, c7, lt_of_block k0, ((Below.refl _ _).alloc (Nat.le_refl _) _).drew⟩
    have KPA : (((w.alloc (.cells #[.int .i64 k, .int .i64 c, .int .u64 t, .int .i64 s, .int .u64 q, .int .i64 m, .slice y n cy, .slice x nx cx] 29)).alloc (.cells #[.string ⟨#[]⟩, .string ⟨#[]⟩, .string ⟨#[]⟩, .string ⟨#[]⟩, .string ⟨#[]⟩, .string ⟨#[]⟩, .string ⟨#[]⟩] 47)).drew.cell? ⟨w.heap.size, 0, none⟩ = some (.int .i64 k) ∧ ((w.alloc (.cells #[.int .i64 k, .int .i64 c, .int .u64 t, .int .i64 s, .int .u64 q, .int .i64 m, .slice y n cy, .slice x nx cx] 29)).alloc (.cells #[.string ⟨#[]⟩, .string ⟨#[]⟩, .string ⟨#[]⟩, .string ⟨#[]⟩, .string ⟨#[]⟩, .string ⟨#[]⟩, .string ⟨#[]⟩] 47)).drew.cell? ⟨w.heap.size, 1, none⟩ = some (.int .i64 c) ∧ ((w.alloc (.cells #[.int .i64 k, .int .i64 c, .int .u64 t, .int .i64 s, .int .u64 q, .int .i64 m, .slice y n cy, .slice x nx cx] 29)).alloc (.cells #[.string ⟨#[]⟩, .string ⟨#[]⟩, .string ⟨#[]⟩, .string ⟨#[]⟩, .string ⟨#[]⟩, .string ⟨#[]⟩, .string ⟨#[]⟩] 47)).drew.cell? ⟨w.heap.size, 2, none⟩ = some (.int .u64 t) ∧ ((w.alloc (.cells #[.int .i64 k, .int .i64 c, .int .u64 t, .int .i64 s, .int .u64 q, .int .i64 m, .slice y n cy, .slice x nx cx] 29)).alloc (.cells #[.string ⟨#[]⟩, .string ⟨#[]⟩, .string ⟨#[]⟩, .string ⟨#[]⟩, .string ⟨#[]⟩, .string ⟨#[]⟩, .string ⟨#[]⟩] 47)).drew.cell? ⟨w.heap.size, 3, none⟩ = some (.int .i64 s) ∧ ((w.alloc (.cells #[.int .i64 k, .int .i64 c, .int .u64 t, .int .i64 s, .int .u64 q, .int .i64 m, .slice y n cy, .slice x nx cx] 29)).alloc (.cells #[.string ⟨#[]⟩, .string ⟨#[]⟩, .string ⟨#[]⟩, .string ⟨#[]⟩, .string ⟨#[]⟩, .string ⟨#[]⟩, .string ⟨#[]⟩] 47)).drew.cell? ⟨w.heap.size, 4, none⟩ = some (.int .u64 q) ∧ ((w.alloc (.cells #[.int .i64 k, .int .i64 c, .int .u64 t, .int .i64 s, .int .u64 q, .int .i64 m, .slice y n cy, .slice x nx cx] 29)).alloc (.cells #[.string ⟨#[]⟩, .string ⟨#[]⟩, .string ⟨#[]⟩, .string ⟨#[]⟩, .string ⟨#[]⟩, .string ⟨#[]⟩, .string ⟨#[]⟩] 47)).drew.cell? ⟨w.heap.size, 5, none⟩ = some (.int .i64 m) ∧ ((w.alloc (.cells #[.int .i64 k, .int .i64 c, .int .u64 t, .int .i64 s, .int .u64 q, .int .i64 m, .slice y n cy, .slice x nx cx] 29)).alloc (.cells #[.string ⟨#[]⟩, .string ⟨#[]⟩, .string ⟨#[]⟩, .string ⟨#[]⟩, .string ⟨#[]⟩, .string ⟨#[]⟩, .string ⟨#[]⟩] 47)).drew.cell? ⟨w.heap.size, 6, none⟩ = some (.slice y n cy) ∧ ((w.alloc (.cells #[.int .i64 k, .int .i64 c, .int .u64 t, .int .i64 s, .int .u64 q, .int .i64 m, .slice y n cy, .slice x nx cx] 29)).alloc (.cells #[.string ⟨#[]⟩, .string ⟨#[]⟩, .string ⟨#[]⟩, .string ⟨#[]⟩, .string ⟨#[]⟩, .string ⟨#[]⟩, .string ⟨#[]⟩] 47)).drew.cell? ⟨w.heap.size, 7, none⟩ = some (.slice x nx cx) ∧ w.heap.size < ((w.alloc (.cells #[.int .i64 k, .int .i64 c, .int .u64 t, .int .i64 s, .int .u64 q, .int .i64 m, .slice y n cy, .slice x nx cx] 29)).alloc (.cells #[.string ⟨#[]⟩, .string ⟨#[]⟩, .string ⟨#[]⟩, .string ⟨#[]⟩, .string ⟨#[]⟩, .string ⟨#[]⟩, .string ⟨#[]⟩] 47)).drew.heap.size ∧ Below w.heap.size w ((w.alloc (.cells #[.int .i64 k, .int .i64 c, .int .u64 t, .int .i64 s, .int .u64 q, .int .i64 m, .slice y n cy, .slice x nx cx] 29)).alloc (.cells #[.string ⟨#[]⟩, .string ⟨#[]⟩, .string ⟨#[]⟩, .string ⟨#[]⟩, .string ⟨#[]⟩, .string ⟨#[]⟩, .string ⟨#[]⟩] 47)).drew) := keepRa (.cells #[.string ⟨#[]⟩, .string ⟨#[]⟩, .string ⟨#[]⟩, .string ⟨#[]⟩, .string ⟨#[]⟩, .string ⟨#[]⟩, .string ⟨#[]⟩] 47) KP0
    have HZA : Hid (ZB w ((w.alloc (.cells #[.int .i64 k, .int .i64 c, .int .u64 t, .int .i64 s, .int .u64 q, .int .i64 m, .slice y n cy, .slice x nx cx] 29)).alloc (.cells #[.string ⟨#[]⟩, .string ⟨#[]⟩, .string ⟨#[]⟩, .string ⟨#[]⟩, .string ⟨#[]⟩, .string ⟨#[]⟩, .string ⟨#[]⟩] 47)).drew (w.heap.size + 1)) := ⟨Nat.lt_succ_self _, by
      have h9 := heap_alloc_new (w.alloc (.cells #[.int .i64 k, .int .i64 c, .int .u64 t, .int .i64 s, .int .u64 q, .int .i64 m, .slice y n cy, .slice x nx cx] 29)) (.cells #[.string ⟨#[]⟩, .string ⟨#[]⟩, .string ⟨#[]⟩, .string ⟨#[]⟩, .string ⟨#[]⟩, .string ⟨#[]⟩, .string ⟨#[]⟩] 47)
      rw [World.size_alloc] at h9
      exact h9⟩
    clear k0 c0 c1 c2 c3 c4 c5 c6 c7
    go_region_held3 (fun w' => (w'.cell? ⟨w.heap.size, 0, none⟩ = some (.int .i64 k) ∧ w'.cell? ⟨w.heap.size, 1, none⟩ = some (.int .i64 c) ∧ w'.cell? ⟨w.heap.size, 2, none⟩ = some (.int .u64 t) ∧ w'.cell? ⟨w.heap.size, 3, none⟩ = some (.int .i64 s) ∧ w'.cell? ⟨w.heap.size, 4, none⟩ = some (.int .u64 q) ∧ w'.cell? ⟨w.heap.size, 5, none⟩ = some (.int .i64 m) ∧ w'.cell? ⟨w.heap.size, 6, none⟩ = some (.slice y n cy) ∧ w'.cell? ⟨w.heap.size, 7, none⟩ = some (.slice x nx cx) ∧ w.heap.size < w'.heap.size ∧ Below w.heap.size w w')) (first | with_reducible exact KP0 | with_reducible exact KPA | ((with_reducible refine keepRc ?_ ?_ _ _ _ _ _ _ _); (with_reducible assumption); (with_reducible assumption)) | ((with_reducible refine keepR ?_ hb rfl); with_reducible assumption) | ((with_reducible refine keepRa _ ?_); with_reducible assumption) | ((with_reducible refine keepRb _ ?_); with_reducible assumption)) (first | (go_at_call 13; refine (fmA (by assumption) _ (tabR HT.out (by assumption))).mono ?_; rintro e w' ⟨rfl, hb⟩; (first | (have hz := hid (ZB.new (by with_reducible assumption) hb (by simp)); (obtain ⟨z0, z1, z2, z3, z4, z5, z6⟩ := cells7 hz.out.2); have q0 := frz hz.out.2 0; have q1 := frz hz.out.2 1; have q2 := frz hz.out.2 2; have q3 := frz hz.out.2 3; have q4 := frz hz.out.2 4; have q5 := frz hz.out.2 5; have q6 := frz hz.out.2 6) | (have hz := hid (ZB.later (by with_reducible assumption) hb (by with_reducible rfl)); (obtain ⟨z0, z1, z2, z3, z4, z5, z6⟩ := cells7 hz.out.2); have q0 := frz hz.out.2 0; have q1 := frz hz.out.2 1; have q2 := frz hz.out.2 2; have q3 := frz hz.out.2 3; have q4 := frz hz.out.2 4; have q5 := frz hz.out.2 5; have q6 := frz hz.out.2 6) | skip)) | (go_at_call 14; refine (rkey_any t q s ht hs hq _ (tabR HT.out (by assumption))).mono ?_; rintro e w' ⟨rfl, hb⟩; (first | (have hz := hid (ZB.new (by with_reducible assumption) hb (by simp)); (obtain ⟨z0, z1, z2, z3, z4, z5, z6⟩ := cells7 hz.out.2); have q0 := frz hz.out.2 0; have q1 := frz hz.out.2 1; have q2 := frz hz.out.2 2; have q3 := frz hz.out.2 3; have q4 := frz hz.out.2 4; have q5 := frz hz.out.2 5; have q6 := frz hz.out.2 6) | (have hz := hid (ZB.later (by with_reducible assumption) hb (by with_reducible rfl)); (obtain ⟨z0, z1, z2, z3, z4, z5, z6⟩ := cells7 hz.out.2); have q0 := frz hz.out.2 0; have q1 := frz hz.out.2 1; have q2 := frz hz.out.2 2; have q3 := frz hz.out.2 3; have q4 := frz hz.out.2 4; have q5 := frz hz.out.2 5; have q6 := frz hz.out.2 6) | skip)))
    all_goals (
      refine (show Exit.then _ _ Exit.normal _ _ from hK _ _ (Met.intro (hJ _ _ ?_)))
      (repeat apply Exists.intro)
      refine ⟨?_, rfl⟩
      first | (refine ⟨_, rfl, put7a hz _ _ _ _ _ _ _, ?_⟩; with_reducible assumption) | (refine ⟨_, rfl, heap_alloc_new _ _, ?_⟩; with_reducible assumption))

  case rest =>
    obtain ⟨g, rfl, hgd, c0, c1, c2, c3, c4, c5, c6, c7, hlt0, hbl0⟩ := hcut
    have HG := hid hgd
    have hgl := lt_of_block hgd
    have HBL := hid hbl0
    have l0 := itoa_len k hk.1 (by have := hk.2; omega)
    have l9 := itoa_len nx (by omega) (by omega)
    have lo := lenB_out k c t s q m hk hc ht hs hq hm
    obtain ⟨r0, e0⟩ : ∃ x, [114, 101, 115, 117, 108, 116, 32] ++ Lib.itoa k = x := ⟨_, rfl⟩
    have s0 := sadd _ _ _ e0 (by simp; omega)
    have HR0 := hid e0
    have HX := fmA hk wc ((Lib.tabBelow_of_tabIs HT.out).on hbl0).here
    clear e0 a1 a2 a3 a4 a6 hgd hbl0
    go_upto_region 3 with (go_at_call 13; (with_reducible refine HX.mono ?_); rintro e w2 ⟨rfl, hb2⟩)
    have k0 := (hb2.cell (p := ⟨w.heap.size, 0, none⟩) hlt0).trans c0
    have k6 := (hb2.cell (p := ⟨w.heap.size, 6, none⟩) hlt0).trans c6
    have k7 := (hb2.cell (p := ⟨w.heap.size, 7, none⟩) hlt0).trans c7
    have HG2 := hid ((hb2.block _ hgl).trans HG.out)
    have HB2 := hid (HBL.out.trans (hb2.mono (Nat.le_of_lt hlt0)))
    have hlt2 := Nat.lt_of_lt_of_le hlt0 hb2.size
    clear c0 c1 c2 c3 c4 c5 c6 c7 HX hb2 s0 hgl hlt0 HG HBL
    go_cut [40] (fun v wx => v = .bool (decide (1 ≤ k ∧ k ≤ 6)) ∧ wx = w2)
    case first =>
      by_cases h1 : 1 ≤ k
      case pos =>
        have d1 : decide ((1 : Int) ≤ k) = true := decide_eq_true h1
        by_cases h2 : k ≤ 6
        case pos =>
          have d2 : decide (k ≤ (6 : Int)) = true := decide_eq_true h2
          have HK := hid (decide_eq_true (show 1 ≤ k ∧ k ≤ 6 from ⟨h1, h2⟩))
          clear h1 h2
          go_wp2_with fail
          go_meet
          rw [HK.out]
          exact ⟨rfl, rfl⟩
        case neg =>
          have d2 : decide (k ≤ (6 : Int)) = false := decide_eq_false h2
          have HK := hid (decide_eq_false (show ¬ (1 ≤ k ∧ k ≤ 6) from fun h => h2 h.2))
          clear h1 h2
          go_wp2_with fail
          go_meet
          rw [HK.out]
          exact ⟨rfl, rfl⟩
      case neg =>
        have d1 : decide ((1 : Int) ≤ k) = false := decide_eq_false h1
        have HK := hid (decide_eq_false (show ¬ (1 ≤ k ∧ k ≤ 6) from fun h => h1 h.1))
        clear h1
        go_wp2_with fail
        go_meet
        rw [HK.out]
        exact ⟨rfl, rfl⟩
    case rest =>
      obtain ⟨rfl, rfl⟩ := hcut
      go_upto_if 40 with fail
      go_cut [4] (fun v wx => v = .string ⟨(outB k c t s q m).toArray⟩ ∧ wx = wc)
      case first =>
        by_cases hr : 1 ≤ k ∧ k ≤ 6
        case pos =>
          rw [decide_eq_true hr]
          obtain ⟨g0, g1, g2, g3, g4, g5, g6⟩ := cells7 HG2.out
          have hkk : k = 1 ∨ k = 2 ∨ k = 3 ∨ k = 4 ∨ k = 5 ∨ k = 6 := by omega
          obtain ⟨E1, E2, E3⟩ := HE.out
          clear hr
          rcases hkk with rfl | rfl | rfl | rfl | rfl | rfl
          all_goals (
            go_wp2_with fail
            go_meet
            refine ⟨?_, rfl⟩
            first | rfl | (rw [E1]; rfl) | (rw [E2]; rfl) | (rw [E3]; rfl))
        case neg =>
          rw [decide_eq_false hr]
          have ho : outB k c t s q m = r0 := by
            rw [← HR0.out]
            unfold outB
            rw [if_neg (by omega), if_neg (by omega), if_neg (by omega), if_neg (by omega), if_neg (by omega), if_neg (by omega)]
          have HO := hid ho
          clear hr ho
          go_wp2_with fail
          go_meet
          rw [HO.out]
          exact ⟨rfl, rfl⟩
      case rest =>
        obtain ⟨rfl, rfl⟩ := hcut
        obtain ⟨O, hO⟩ : ∃ O, outB k c t s q m = O := ⟨_, rfl⟩
        rw [hO]
        have lO : O.length ≤ 120 := by rw [← hO]; exact lo
        have HO := hid hO
        obtain ⟨r1, e1⟩ : ∃ x, [10, 101, 118, 101, 110, 116, 115, 32] ++ Lib.itoa nx = x := ⟨_, rfl⟩
        obtain ⟨r2, e2⟩ : ∃ x, r1 ++ [10] = x := ⟨_, rfl⟩
        obtain ⟨r3, e3⟩ : ∃ x, O ++ r2 = x := ⟨_, rfl⟩
        have n1 := congrArg List.length e1
        have n2 := congrArg List.length e2
        have n3 := congrArg List.length e3
        simp only [List.length_append, List.length_cons, List.length_nil] at n1 n2 n3
        have s1 := sadd _ _ _ e1 (by simp; omega)
        have s2 := sadd _ _ _ e2 (by simp; omega)
        have s3 := sadd _ _ _ e3 (by omega)
        have l3 : r3.length ≤ 160 := by omega
        have HR3 : Hid (r3 = O ++ ([10, 101, 118, 101, 110, 116, 115, 32] ++ (Lib.itoa nx ++ [10]))) := by show r3 = _; rw [← e3, ← e2, ← e1]; simp
        have HX := fmA (show I64 (nx : Int) from ⟨by omega, by omega⟩) wc ((Lib.tabBelow_of_tabIs HT.out).on HB2.out).here
        clear hO e1 e2 e3 n1 n2 n3 k0
        go_wp2_with (go_at_call 13; (with_reducible refine HX.mono ?_))
        rintro e w3 ⟨rfl, hb3⟩
        have m6 := (hb3.cell (p := ⟨w.heap.size, 6, none⟩) hlt2).trans k6
        have m7 := (hb3.cell (p := ⟨w.heap.size, 7, none⟩) hlt2).trans k7
        have hlt3 := Nat.lt_of_lt_of_le hlt2 hb3.size
        have HB3 := hid (HB2.out.trans (hb3.mono (Nat.le_of_lt hlt2)))
        clear HX hb3 k6 k7 HG2
        go_wp2_with fail
        clear s1 s2 s3
        go_loopw [4, 56] (fun r z wr => ∃ j : Nat, z = .int .i64 (j : Int) ∧ j ≤ n ∧ r = bst (r3 ++ ssB A K j) ∧ Below w3.heap.size w3 wr) (fun _ z _ => n - (intOf z).toNat)
        case atStart => exact ⟨0, rfl, Nat.zero_le _, by simp [ssB, bst], Below.refl _ _⟩
        case round =>
          obtain ⟨j, rfl, hj, rfl, hbj⟩ := hrel
          have lj := ssB_len (A := A) (K := K) (n := j) (by omega) fun a ha => HA.out a (by omega)
          have lm := wsum_mono A hj
          have HBj := hid hbj
          have HBw := hid (HB3.out.trans (hbj.mono (Nat.le_of_lt hlt3)))
          unfold bst
          by_cases hlt : j < n
          case pos =>
            have dlt : decide ((j : Int) < (n : Int)) = true := by simp; omega
            have i0 : (0 : Int) ≤ (j : Int) := by omega
            have i1 : (j : Int) < (n : Int) := by omega
            have ei : IntKind.i64.wrap ((j : Int) + 1) = (j : Int) + 1 := by rw [IntKind.wrap_i64]; omega
            have hme := meas hlt
            obtain hz | ⟨gg, o, hp, hl, hcc, hkw⟩ := HS.out.below HBw.out
            · omega
            obtain ⟨x0, x1, x2⟩ := hcc j hlt
            have HKW := hid (hkw j hlt)
            obtain ⟨⟨b1, b2⟩, ⟨b3, b4⟩, b5⟩ := HA.out j hlt
            obtain ⟨dN, hdN⟩ : ∃ dN : Nat, (A j).d = dN := ⟨(A j).d.toNat, by omega⟩
            obtain ⟨sN, hsN⟩ : ∃ sN : Nat, (A j).s = sN := ⟨(A j).s.toNat, by omega⟩
            have HD : Hid ((A j).d.toNat = dN ∧ (A j).s.toNat = sN) := ⟨by omega, by omega⟩
            have hwj := HWn.out j hlt
            have lm1 := wsum_mono A (show j + 1 ≤ n from hlt)
            rw [show wsum A (j + 1) = wsum A j + (A j).n from rfl] at lm1
            rw [hdN] at x1 b2
            rw [hsN] at x2 b4
            have hd9 : dN < 18446744073709551616 := by omega
            have hs9 : sN < 18446744073709551616 := by omega
            have HKr := hid b5
            have lw := wdB_len b5
            have lit := itoa_len j (by omega) (by omega)
            have ldd := dec_len dN hd9
            have lss := dec_len sN hs9
            obtain ⟨L, hL⟩ : ∃ L, r3 ++ ssB A K j = L := ⟨_, rfl⟩
            obtain ⟨p1, f1⟩ : ∃ x, [112, 97, 114, 116, 32] ++ Lib.itoa j = x := ⟨_, rfl⟩
            obtain ⟨p2, f2⟩ : ∃ x, p1 ++ [58, 32] = x := ⟨_, rfl⟩
            obtain ⟨L2, f3⟩ : ∃ x, L ++ p2 = x := ⟨_, rfl⟩
            have n0 := congrArg List.length hL
            have n1 := congrArg List.length f1
            have n2 := congrArg List.length f2
            have n3 := congrArg List.length f3
            simp only [List.length_append, List.length_cons, List.length_nil] at n0 n1 n2 n3
            have s1 := sadd _ _ _ f1 (by simp; omega)
            have s2 := sadd _ _ _ f2 (by simp; omega)
            have s3 := sadd _ _ _ f3 (by omega)
            have lL2 : L2.length ≤ 22 * wsum A j + 80 * j + 300 := by omega
            have HL2 : Hid (L2 = r3 ++ ssB A K j ++ (([112, 97, 114, 116, 32] ++ Lib.itoa j) ++ [58, 32])) := by show L2 = _; rw [← f3, ← f2, ← f1, ← hL]
            rw [hL, hp]
            have hba : Below wr.heap.size wr (wr.alloc (.cells #[.slice (A j).p (A j).n (A j).c, .int .u64 dN, .int .u64 sN] 38)) := (Below.refl _ wr).alloc (Nat.le_refl _) _
            have HBa := hid (HBw.out.trans (hba.mono HBw.out.size))
            have HBr := hid (HBj.out.trans (hba.mono HBj.out.size))
            have HKA := hid (HKW.out.below hba)
            have HSB := hid (show (wr.alloc (.cells #[.slice (A j).p (A j).n (A j).c, .int .u64 dN, .int .u64 sN] 38)).heap[wr.heap.size]? = some (.cells #[.slice (A j).p (A j).n (A j).c, .int .u64 dN, .int .u64 sN] 38 (0, 0)) from heap_alloc_new _ _)
            have HX := fmA (show I64 (j : Int) from ⟨by omega, by omega⟩) (wr.alloc (.cells #[.slice (A j).p (A j).n (A j).c, .int .u64 dN, .int .u64 sN] 38)) ((Lib.tabBelow_of_tabIs HT.out).on HBa.out).here
            clear hl hp hcc hkw hdN hsN b1 b2 b3 b4 b5 hL f1 f2 f3 n0 n1 n2 n3 hba hbj HKW
            obtain ⟨bw, hbw⟩ : ∃ bw, wr.heap.size = bw := ⟨_, rfl⟩
            go_wp2_with (go_at_call 13; (with_reducible refine HX.mono ?_))
            rintro e w4 ⟨rfl, hb4⟩
            have HS4 := hid ((hb4.block _ (lt_of_block HSB.out)).trans HSB.out)
            have HB4 := hid (HBa.out.trans (hb4.mono HBa.out.size))
            have HR4 := hid (HBr.out.trans (hb4.mono HBr.out.size))
            have HK4 := hid (HKA.out.below hb4)
            obtain ⟨q0, q1, q2⟩ := cells3p HS4.out
            clear HX hb4 HSB HBa HBr HKA
            rw [hbw] at HS4 q0 q1 q2
            have HBW := hid hbw
            clear q1 q2 hbw
            go_wp2_with fail
            clear q0 s1 s2 s3
            go_loopw [4, 70] (fun r z wx => ∃ i : Nat, z = .int .i64 (i : Int) ∧ i ≤ (A j).n ∧ r = bst (L2 ++ wdB (K j) i) ∧ Below w4.heap.size w4 wx) (fun _ z _ => (A j).n - (intOf z).toNat)
            case atStart => exact ⟨0, rfl, Nat.zero_le _, by simp [wdB, bst], Below.refl _ _⟩
            case round =>
              obtain ⟨i, rfl, hi, rfl, hbi⟩ := hrel
              have li := wdB_len (K := K j) (n := i) fun a ha => HKr.out a (by omega)
              have HBi := hid hbi
              have HBx := hid (HB4.out.trans (hbi.mono HB4.out.size))
              unfold bst
              by_cases hlti : i < (A j).n
              case pos =>
                have dlt' : decide ((i : Int) < ((A j).n : Int)) = true := by simp; omega
                have i0' : (0 : Int) ≤ (i : Int) := by omega
                have i1' : (i : Int) < ((A j).n : Int) := by omega
                have ei' : IntKind.i64.wrap ((i : Int) + 1) = (i : Int) + 1 := by rw [IntKind.wrap_i64]; omega
                have hme' := meas hlti
                obtain h0 | ⟨gw, ow, hpw, hgw, hcw⟩ := HK4.out.below hbi
                · omega
                have x0' := hcw i hlti
                have hki := HKr.out i hlti
                have lk := itoa_len (K j i) hki.1 (by have := hki.2; omega)
                obtain ⟨M, hM⟩ : ∃ M, L2 ++ wdB (K j) i = M := ⟨_, rfl⟩
                obtain ⟨t1, f1⟩ : ∃ x, Lib.itoa (K j i) ++ [32] = x := ⟨_, rfl⟩
                obtain ⟨M2, f2⟩ : ∃ x, M ++ t1 = x := ⟨_, rfl⟩
                have n0 := congrArg List.length hM
                have n1 := congrArg List.length f1
                simp only [List.length_append, List.length_cons, List.length_nil] at n0 n1
                have s1 := sadd _ _ _ f1 (by simp; omega)
                have s2 := sadd _ _ _ f2 (by omega)
                rw [hM, hpw]
                have HM : Hid (M2 = L2 ++ wdB (K j) (i + 1)) := by show M2 = _; rw [wdB, ← f2, ← f1, ← hM]; simp
                have HX := fmI hki wr ((Lib.tabBelow_of_tabIs HT.out).on HBx.out).here
                clear hpw hgw hcw hM f1 f2 n0 n1 hbi x0 x1 x2
                go_wp2_with (go_at_call 15; (with_reducible refine HX.mono ?_))
                rintro e w6 ⟨rfl, hb6⟩
                have HB6 := hid (HBi.out.trans (hb6.mono HBi.out.size))
                clear hb6 HX
                go_wp2_with fail
                exact ⟨⟨i + 1, rfl, hlti, by rw [← HM.out], HB6.out⟩, hme'⟩
              case neg =>
                have dlt' : decide ((i : Int) < ((A j).n : Int)) = false := by simp; omega
                obtain rfl : i = (A j).n := by omega
                obtain ⟨M, hM⟩ : ∃ M, L2 ++ wdB (K j) (A j).n = M := ⟨_, rfl⟩
                obtain ⟨d1, f1⟩ : ∃ x, [100, 105, 99, 101, 32] ++ Lib.decDigits dN = x := ⟨_, rfl⟩
                obtain ⟨d2, f2⟩ : ∃ x, d1 ++ [32, 115, 101, 110, 116, 32] = x := ⟨_, rfl⟩
                obtain ⟨d3, f3⟩ : ∃ x, d2 ++ Lib.decDigits sN = x := ⟨_, rfl⟩
                obtain ⟨d4, f4⟩ : ∃ x, d3 ++ [10] = x := ⟨_, rfl⟩
                obtain ⟨M2, f5⟩ : ∃ x, M ++ d4 = x := ⟨_, rfl⟩
                have n0 := congrArg List.length hM
                have n1 := congrArg List.length f1
                have n2 := congrArg List.length f2
                have n3 := congrArg List.length f3
                have n4 := congrArg List.length f4
                simp only [List.length_append, List.length_cons, List.length_nil] at n0 n1 n2 n3 n4
                have s1 := sadd _ _ _ f1 (by simp; omega)
                have s2 := sadd _ _ _ f2 (by simp; omega)
                have s3 := sadd _ _ _ f3 (by omega)
                have s4 := sadd _ _ _ f4 (by simp; omega)
                have s5 := sadd _ _ _ f5 (by omega)
                rw [hM]
                have HM : Hid (M2 = r3 ++ ssB A K (j + 1)) := by
                  show M2 = _
                  rw [ssB, HD.out.1, HD.out.2, ← f5, ← f4, ← f3, ← f2, ← f1, ← hM, HL2.out]
                  simp [stB]
                obtain ⟨-, q1, q2⟩ := cells3p ((hbi.block _ (lt_of_block HS4.out)).trans HS4.out)
                have hb9 := Nat.lt_of_lt_of_le (lt_of_block HS4.out) hbi.size
                have KP0 : (wr.drew.cell? ⟨bw, 1, none⟩ = some (.int .u64 dN) ∧ wr.drew.cell? ⟨bw, 2, none⟩ = some (.int .u64 sN) ∧ bw < wr.drew.heap.size ∧ Below w4.heap.size w4 wr.drew) := ⟨q1, q2, hb9, hbi.drew⟩
                clear hM f1 f2 f3 f4 f5 n0 n1 n2 n3 n4 hbi x0 x1 x2 q1 q2
                go_wp2_with fail
                go_region_held3 (fun w' => (w'.cell? ⟨bw, 1, none⟩ = some (.int .u64 dN) ∧ w'.cell? ⟨bw, 2, none⟩ = some (.int .u64 sN) ∧ bw < w'.heap.size ∧ Below w4.heap.size w4 w')) (first | with_reducible exact KP0 | ((with_reducible refine keepD ?_ hb rfl); with_reducible assumption)) (first | (go_at_call 16; refine (fmU (by assumption) _ (tabD HT.out HB4.out (by assumption))).mono ?_; rintro e w' ⟨rfl, hb⟩))
                all_goals (
                  rename_i hS
                  have HR9 := hid (HR4.out.trans (hS.2.2.2.mono HR4.out.size))
                  clear s1 s2 s3 s4 s5 KP0 hS
                  go_wp2_with fail
                  exact ⟨⟨j + 1, rfl, hlt, by rw [← HM.out], HR9.out⟩, hme⟩)
          case neg =>
            have dlt : decide ((j : Int) < (n : Int)) = false := by simp; omega
            obtain rfl : j = n := by omega
            have u7 := (hbj.cell (p := ⟨w.heap.size, 7, none⟩) hlt3).trans m7
            clear hbj
            go_wp2_with fail
            clear u7
            go_loopw [4, 96] (fun r z wr' => ∃ i : Nat, z = .int .i64 (i : Int) ∧ i ≤ nx ∧ r = bst (r3 ++ ssB A K j ++ evB X i) ∧ Below wr.heap.size wr wr') (fun _ z _ => nx - (intOf z).toNat)
            case atStart => exact ⟨0, rfl, Nat.zero_le _, by simp [evB, bst], Below.refl _ _⟩
            case round =>
              obtain ⟨i, rfl, hi, rfl, hbi⟩ := hrel
              have li := evB_len (X := X) (n := i) fun a ha => HSe.out a (by omega)
              have HBi := hid hbi
              have HBx := hid (HBw.out.trans (hbi.mono HBw.out.size))
              unfold bst
              by_cases hlt : i < nx
              case pos =>
                have dlt : decide ((i : Int) < (nx : Int)) = true := by simp; omega
                have i0 : (0 : Int) ≤ (i : Int) := by omega
                have i1 : (i : Int) < (nx : Int) := by omega
                have ei : IntKind.i64.wrap ((i : Int) + 1) = (i : Int) + 1 := by rw [IntKind.wrap_i64]; omega
                have hme := meas hlt
                obtain ⟨g, o, hp, hl, x0, x1, x2, x3, x4, x5⟩ := (HXS.out.below HBx.out).at hlt
                obtain ⟨⟨b1, b2⟩, b3, ⟨b4, b5⟩, b6, b7, b8⟩ := HSe.out i hlt
                obtain ⟨tN, htN⟩ : ∃ tN : Nat, (X i).t = tN := ⟨(X i).t.toNat, by omega⟩
                obtain ⟨qN, hqN⟩ : ∃ qN : Nat, (X i).q = qN := ⟨(X i).q.toNat, by omega⟩
                have HD : Hid ((X i).t.toNat = tN ∧ (X i).q.toNat = qN) := ⟨by omega, by omega⟩
                rw [htN] at x0 b2
                rw [hqN] at x2 b5
                have lt1 := txt_len tN qN (X i).s (X i).d (X i).k (X i).v (by omega) (by omega) b3 b6 b7 b8
                have HX := refText_any tN qN (X i).s (X i).d (X i).k (X i).v (by omega) (by omega) ⟨b3.1, by have := b3.2; omega⟩ ⟨b6.1, by have := b6.2; omega⟩ ⟨b7.1, by have := b7.2; omega⟩ ⟨b8.1, by have := b8.2; omega⟩ (wr.alloc (.cells #[.int .u64 tN, .int .i64 (X i).s, .int .u64 qN, .int .i64 (X i).d, .int .i64 (X i).k, .int .i64 (X i).v] 41))
                obtain ⟨L, hL⟩ : ∃ L, r3 ++ ssB A K j ++ evB X i = L := ⟨_, rfl⟩
                obtain ⟨y1, f1⟩ : ∃ x, txt tN qN (X i).s (X i).d (X i).k (X i).v = x := ⟨_, rfl⟩
                obtain ⟨y2, f2⟩ : ∃ x, y1 ++ [10] = x := ⟨_, rfl⟩
                obtain ⟨y3', f3⟩ : ∃ x, L ++ y2 = x := ⟨_, rfl⟩
                have n0 := congrArg List.length hL
                have n2 := congrArg List.length f2
                rw [f1] at lt1 HX
                simp only [List.length_append, List.length_cons, List.length_nil] at n0 n2
                have s2 := sadd _ _ _ f2 (by simp; omega)
                have s3 := sadd _ _ _ f3 (by omega)
                rw [hL, hp]
                have HL : Hid (y3' = r3 ++ ssB A K j ++ evB X (i + 1)) := by show y3' = _; rw [evB, HD.out.1, HD.out.2, ← f3, ← f2, ← f1, ← hL]; simp
                have HBn := hid (HBi.out.trans (((Below.refl _ wr).alloc (Nat.le_refl _) (.cells #[.int .u64 tN, .int .i64 (X i).s, .int .u64 qN, .int .i64 (X i).d, .int .i64 (X i).k, .int .i64 (X i).v] 41)).mono HBi.out.size))
                clear hl hp htN hqN b1 b2 b3 b4 b5 b6 b7 b8 hL f1 f2 f3 n0 n2 lt1 hbi
                go_wp2_with (go_at_call 17; (with_reducible refine HX.mono ?_))
                rintro e w6 ⟨rfl, hb6⟩
                have HB6 := hid (HBn.out.trans (hb6.mono HBn.out.size))
                clear hb6 HX
                go_wp2_with fail
                exact ⟨⟨i + 1, rfl, hlt, by rw [← HL.out], HB6.out⟩, hme⟩
              case neg =>
                have dlt : decide ((i : Int) < (nx : Int)) = false := by simp; omega
                obtain rfl : i = nx := by omega
                have hfin : r3 ++ ssB A K j ++ evB X i = resB k c t s q m A K j X i := by rw [HR3.out, ← HO.out]; simp [resB]
                rw [hfin]
                obtain ⟨L, hL⟩ : ∃ L, resB k c t s q m A K j X i = L := ⟨_, rfl⟩
                rw [hL]
                have HL := hid hL
                clear hL hfin hbi
                go_wp2_with fail
                go_ret
                rw [HL.out]
                exact ⟨rfl, HBx.out⟩
end Go.Proofs.YtijkokckdbhkcaaDoor
