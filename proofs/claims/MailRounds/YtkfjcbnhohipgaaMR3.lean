import Derived.Test.YtkfjcbnhohipgaaMR2
import Derived.Test.YtkfjcbnhohipgaaMC2
import Derived.ArgAppend
import Derived.BigQuiet
import Derived.Deep.RegionLaw
import Derived.Deep.RegionHeld3
import Derived.Deep.Cut
import Derived.Deep.DeepCutAuto
import Derived.Deep.CutBlock
import Derived.Deep.CutRange
import Derived.Deep.AppendLies
import Derived.Handy
import Derived.Lib.RabinKarpLaws
namespace Go.Proofs.Ytkfjcbnhohipgaa
open Go.ChangeShapes Go.WideShapes Go.ChangeAt Go.RowKit
set_option linter.unusedVariables false
set_option linter.unusedSimpArgs false


theorem own_setT {W : World} {B g n c : Nat} {k : Nat → Int × Int} (h : Own W B 31 2 (.slice (some ⟨g, 0, none⟩) n c) n (thF k)) (i : Nat) (a b : Int) : Own ((W.setCell ⟨g, i * 2, none⟩ (.int .i64 a)).setCell ⟨g, i * 2 + 1, none⟩ (.int .i64 b)) B 31 2 (.slice (some ⟨g, 0, none⟩) n c) n (thF fun j => if j = i then (a, b) else k j) := by
  refine Own.congr (h.put (i * 2) [.int .i64 a, .int .i64 b]) fun j hj => ?_
  unfold putF thF
  simp only [List.length_cons, List.length_nil]
  by_cases x : i * 2 ≤ j ∧ j < i * 2 + 2
  · rw [if_pos x, show j / 2 = i by omega, if_pos rfl]
    rcases (by omega : j = i * 2 ∨ j = i * 2 + 1) with rfl | rfl
    · rw [if_pos (by omega), show i * 2 - i * 2 = 0 by omega]; rfl
    · rw [if_neg (by omega), show i * 2 + 1 - i * 2 = 1 by omega]; rfl
  · rw [if_neg x]
    simp only [if_neg (show ¬ j / 2 = i by omega)]

def tlF (D : List (Int × Int)) : Nat → Int × Int := fun i => D.getD i (0, 0)
theorem tlF_app (D : List (Int × Int)) (a b : Int) (m : Nat) (hm : D.length = m) (xs : List Value) (hxs : xs = cellsF (thF (tlF D)) (m * 2)) : ∀ j, j < (m + 1) * 2 → (xs ++ ([.int .i64 a, .int .i64 b] : List Value)).getD j undef = thF (tlF (D ++ [(a, b)])) j := fun j hj => by
  rw [thF_app (tlF D) m a b xs hxs j hj]
  have key : ∀ i, i < m + 1 → (if i = m then (a, b) else tlF D i) = tlF (D ++ [(a, b)]) i := fun i hi => by
    unfold tlF
    rw [List.getD_eq_getElem?_getD, List.getD_eq_getElem?_getD]
    by_cases e : i = m
    · rw [if_pos e, List.getElem?_append_right (by omega), show i - D.length = 0 by omega]
      rfl
    · rw [if_neg e, List.getElem?_append_left (by omega)]
  unfold thF
  show (if j % 2 = 0 then Value.int .i64 (if j / 2 = m then (a, b) else tlF D (j / 2)).1 else Value.int .i64 (if j / 2 = m then (a, b) else tlF D (j / 2)).2) = _
  rw [key (j / 2) (by omega)]
theorem dueT_len (X : Nat → Nt) (N p w : Nat) : ∀ f, (dueT X N f p w).length ≤ f * N
  | 0 => Nat.zero_le _
  | f + 1 => by
    have ih := dueT_len X N p w f
    unfold dueT at ih ⊢
    rw [List.range_succ, List.flatMap_append, List.flatMap_singleton, List.length_append, Nat.succ_mul]
    have h9 : (lta X N f w p).length ≤ N := ltr_len X N f w p (onN X N f p)
    omega
theorem dueT_succ (X : Nat → Nt) (N p w f : Nat) : dueT X N (f + 1) p w = dueT X N f p w ++ lta X N f w p := by
  unfold dueT
  rw [List.range_succ, List.flatMap_append, List.flatMap_singleton]
abbrev ltK : Int × Int → Int × Int → Bool := ST.klt kcK
set_option maxRecDepth 100000 in
set_option maxHeartbeats 8000000 in
theorem dueR_any (n : Nat) (rn : Int) (q : Option Addr) (N cq : Nat) (pq : Option Addr) (pn pc : Nat) (X : Nat → Nt) (p w : Nat) (hn : n ≤ 64) (hN : N ≤ 1000) (W : World) (h : NIn W q N X) : Calls Try.prog 42 #[.agg #[.int .i64 (n : Int), .int .i64 rn, .slice q N cq, .slice pq pn pc], .int .i64 (p : Int), .int .i64 (w : Int)] W fun e W' => ∃ v d, e = .returned v ∧ Own W' W.heap.size 31 2 v (dueT X N n p w).length (thF d) ∧ Stb ltK 0 (dueT X N n p w).length (tlF (dueT X N n p w)) d ∧ Srt ltK 0 (dueT X N n p w).length d ∧ Below W.heap.size W W' := by
  obtain ⟨iT, hT1, hT2, hT3, hT4⟩ := binfo infoTH
  obtain ⟨SB, hSB⟩ : ∃ SB, W.heap.size = SB := ⟨_, rfl⟩
  obtain ⟨W1, hW1⟩ : ∃ W1, W.alloc (.cells #[.int .i64 (n : Int), .int .i64 rn, .slice q N cq, .slice pq pn pc] 47) = W1 := ⟨_, rfl⟩
  have hb1 : Below SB W W1 := by rw [← hW1, ← hSB]; exact (Below.refl _ W).alloc (Nat.le_refl _) _
  have hc1 : CrAt W1 SB (n : Int) rn q N cq pq pn pc := by rw [← hW1, ← hSB]; exact World.alloc_heap_new W _
  have HH : Hid (NIn W q N X ∧ W.heap.size = SB ∧ N ≤ 1000 ∧ n ≤ 64) := ⟨h, hSB, hN, hn⟩
  have H1 := mhid (And.intro hb1 hc1)
  have HW1 := mhid hW1
  rw [hSB]
  clear h hN hn hb1 hc1 hW1
  go_enter Try.func42, Try.ntmps42
  go_upto_region 1 with fail
  rw [HW1.out]
  clear hSB
  go_wp2_with fail
  go_loopw [7, 8] (fun a y wr => ∃ f : Nat, y = .int .i64 (f : Int) ∧ f ≤ n ∧ Own wr SB 31 2 a (dueT X N f p w).length (thF (tlF (dueT X N f p w))) ∧ Below SB W wr ∧ CrAt wr SB (n : Int) rn q N cq pq pn pc) (fun _ y _ => n - (intOf y).toNat)
  case atStart => exact ⟨0, rfl, Nat.zero_le _, ⟨rfl, .inl ⟨rfl, rfl⟩⟩, H1.out.1, H1.out.2⟩
  case round =>
    obtain ⟨f, rfl, hf, how, hbr, hcr⟩ := hrel
    obtain ⟨c0, c1, c2, c3⟩ := hcr.cells
    have hSBw : SB ≤ wr.heap.size := by have := hbr.size; rw [← HH.out.2.1]; exact this
    by_cases hlt : f < n
    · have dl : decide ((f : Int) < (n : Int)) = true := by simp; omega
      have dln : decide (f < n) = true := by simp; omega
      have hme := meas hlt
      have hn := HH.out.2.2.2
      have hN := HH.out.2.2.1
      have ef : IntKind.i64.wrap ((f : Int) + 1) = (f : Int) + 1 := by rw [IntKind.wrap_i64]; omega
      have hin : NIn wr q N X := HH.out.1.later (by rw [HH.out.2.1]; exact hbr)
      have HMI := mine_any (n : Int) rn q N cq pq pn pc X p f hN wr hin
      have HR := mhid (And.intro how (And.intro hbr (And.intro hcr (And.intro hSBw hlt))))
      clear how hbr hcr hlt hf hn hN hin hSBw
      go_upto_region 7 with (go_at_call 40; (with_reducible refine HMI.mono ?_); rintro e9 w9 ⟨v9, rfl, o9, b9⟩)
      obtain ⟨oq, oc, hov⟩ : ∃ q c, v9 = .slice q (onN X N f p) c := by
        rcases o9.form with ⟨a, b⟩ | ⟨g, c, a, _⟩
        · exact ⟨none, 0, by rw [a, b]⟩
        · exact ⟨_, _, a⟩
      rw [hov] at o9 ⊢
      have H9 := mhid (And.intro (HR.out.1.later b9) (And.intro (HR.out.2.1.trans (b9.mono HR.out.2.2.2.1)) (And.intro ((b9.block _ (lt_of_block HR.out.2.2.1)).trans HR.out.2.2.1) (o9.lower HR.out.2.2.2.1))))
      clear HMI o9 b9 hov c0 c1 c2 c3
      go_wp2_with fail
      go_loopw [7, 10] (fun a y wr => ∃ k : Nat, y = .int .i64 (k : Int) ∧ k ≤ onN X N f p ∧ Own wr SB 31 2 a (dueT X N f p w ++ ltr X N f w p k).length (thF (tlF (dueT X N f p w ++ ltr X N f w p k))) ∧ Below SB W wr ∧ CrAt wr SB (n : Int) rn q N cq pq pn pc ∧ Own wr SB 3 1 (.slice oq (onN X N f p) oc) (onN X N f p) (iLF (ownN X N p f))) (fun _ y _ => onN X N f p - (intOf y).toNat)
      case atStart => exact ⟨0, rfl, Nat.zero_le _, by rw [ltr_zero, List.append_nil]; exact H9.out.1, H9.out.2.1, H9.out.2.2.1, H9.out.2.2.2⟩
      case round =>
        obtain ⟨k, rfl, hk, how, hbr, hcr, hor⟩ := hrel
        obtain ⟨c0, c1, c2, c3⟩ := hcr.cells
        have hSBw : SB ≤ wr.heap.size := by have := hbr.size; rw [← HH.out.2.1]; exact this
        obtain ⟨M, hM⟩ : ∃ M, onN X N f p = M := ⟨_, rfl⟩
        rw [hM] at hk hor ⊢
        by_cases hkm : k < M
        · have dk : decide ((k : Int) < (M : Int)) = true := by simp; omega
          have dkn : decide (k < M) = true := by simp; omega
          have hmk := meas hkm
          have hN := HH.out.2.2.1
          have hMN := ownN_len X N p f
          have ek : IntKind.i64.wrap ((k : Int) + 1) = (k : Int) + 1 := by rw [IntKind.wrap_i64]; omega
          have k0 : (0 : Int) ≤ (k : Int) := by omega
          have k1 : (k : Int) < (M : Int) := by omega
          have hlen : (ownN X N p f).length = M := hM
          obtain ⟨t, ht⟩ : ∃ t, (ownN X N p f)[k]? = some t := ⟨_, List.getElem?_eq_getElem (by omega)⟩
          have hmem := ownN_mem (List.mem_iff_getElem?.2 ⟨k, ht⟩)
          rcases hor.form with ⟨_, h0⟩ | ⟨og, oc', h1, _⟩
          · omega
          injection h1 with h1 _ h1c
          subst h1 h1c
          have z0 : wr.cell? ⟨og, k, none⟩ = some (.int .i64 (t : Int)) := by
            have := hor.cell (j := k) (by omega)
            unfold iLF at this
            rw [List.getD_eq_getElem?_getD, ht] at this
            exact this
          have hin : NIn wr q N X := HH.out.1.later (by rw [HH.out.2.1]; exact hbr)
          rcases hin with h0 | ⟨nb, no, hq, hnl, hnc⟩
          · omega
          obtain ⟨y0, y1, y2, y3⟩ := hnc t hmem.1
          have t0 : (0 : Int) ≤ (t : Int) := by omega
          have t1 : (t : Int) < (N : Int) := by omega
          obtain ⟨⟨ar, af, at_, ak⟩, hXt⟩ : ∃ x, X t = x := ⟨_, rfl⟩
          rw [hXt] at y0 y1 y2 y3
          simp only at y0 y1 y2 y3
          have hsu := ltr_succ X N f w p k t ht
          rw [hXt] at hsu
          simp only at hsu
          have hDl := dueT_len X N p w f
          have hLl := ltr_len X N f w p k
          obtain ⟨D, hD⟩ : ∃ D, dueT X N f p w ++ ltr X N f w p k = D := ⟨_, rfl⟩
          have hDD : dueT X N f p w ++ ltr X N f w p (k + 1) = D ++ if at_ = (w : Int) then [(ak, (t : Int))] else [] := by rw [hsu, ← List.append_assoc, hD]
          have hDlen : D.length ≤ 100000 := by
            rw [← hD, List.length_append]
            have h8 : f * N ≤ 64 * 1000 := Nat.mul_le_mul (by have := HR.out.2.2.2.2; have := HH.out.2.2.2; omega) hN
            omega
          rw [hD] at how
          have HK := mhid (And.intro how (And.intro hbr (And.intro hcr (And.intro hor (And.intro hkm (And.intro hDD (And.intro hDlen hSBw)))))))
          have lSB := lt_of_block hcr
          have log := (hor.lt og rfl).2
          have HQ := mhid hq
          have HMM := mhid hM
          clear how hbr hcr hor hkm hDD hDlen hD hDl hLl hsu hXt hnc hmem ht hlen hMN hN hk hM hSBw
          subst hq
          go_upto_region 9 with fail
          go_region
          generalize hwz : World.drew _ = wz
          have hbz : Below wr.heap.size wr wz := by rw [← hwz]; exact ((Below.refl _ wr).alloc (Nat.le_refl _) _).drew
          have hnw : wz.heap[wr.heap.size]? = some (.cells #[.int .i64 ar, .int .i64 af, .int .i64 at_, .int .i64 ak] 90 (0, 0)) := by rw [← hwz]; exact World.alloc_heap_new wr _
          have v2 : wz.cell? ⟨wr.heap.size, 2, none⟩ = some (.int .i64 at_) := by unfold World.cell?; rw [hnw]; rfl
          have v3 : wz.cell? ⟨wr.heap.size, 3, none⟩ = some (.int .i64 ak) := by unfold World.cell?; rw [hnw]; rfl
          have z0' : wz.cell? ⟨og, k, none⟩ = some (.int .i64 (t : Int)) := (hbz.cell (p := ⟨og, k, none⟩) log).trans z0
          have HZ := mhid (And.intro (HK.out.1.later hbz) (And.intro (HK.out.2.1.trans (hbz.mono HK.out.2.2.2.2.2.2.2)) (And.intro ((hbz.block _ (lt_of_block HK.out.2.2.1)).trans HK.out.2.2.1) (And.intro (HK.out.2.2.2.1.later hbz) (Nat.le_trans HK.out.2.2.2.2.2.2.2 hbz.size)))))
          have lz1 : wr.heap.size < wz.heap.size := lt_of_block hnw
          have lz2 : og < wz.heap.size := Nat.lt_of_lt_of_le log hbz.size
          clear hwz hbz hnw z0 y0 y1 y2 y3 c0 c1 c2 c3 lSB log hnl
          by_cases hto : at_ = (w : Int)
          · have dt : (at_ == (w : Int)) = true := by simp [hto]
            have HTO := mhid hto
            obtain ⟨w4, hw4⟩ : ∃ w4, (wz.alloc (.cells #[.int .i64 ak, .int .i64 (t : Int)] 31)).drew = w4 := ⟨_, rfl⟩
            have hb4 : Below wz.heap.size wz w4 := by rw [← hw4]; exact ((Below.refl _ wz).alloc (Nat.le_refl _) _).drew
            have HO : Hid ((wz.alloc (.cells #[.int .i64 ak, .int .i64 (t : Int)] 31)).drew.ownsRow SB 31 2 u7 D.length (cellsF (thF (tlF D)) (D.length * 2))) := by rw [hw4]; exact HZ.out.1.later hb4
            have hA6 : Hid (∀ j u, ([.int .i64 ak, .int .i64 (t : Int)] : List Value)[j]? = some u → ((wz.alloc (.cells #[.int .i64 ak, .int .i64 (t : Int)] 31)).drew).cell? ((⟨wz.heap.size, 0, none⟩ : Addr).add j) = some u) := fun j u hj => cells_new9 wz [.int .i64 ak, .int .i64 (t : Int)] 31 j u hj
            have HW4 := mhid (And.intro hw4 hb4)
            have HAF : Hid (∀ (v' : Value) (w6 : World), w6.ownsRow SB 31 2 v' (D.length + 1) (cellsF (thF (tlF D)) (D.length * 2) ++ [.int .i64 ak, .int .i64 (t : Int)]) → w4.grownBy w6 u7.ownBlock → Own w6 SB 31 2 v' (D ++ [(ak, (t : Int))]).length (thF (tlF (D ++ [(ak, (t : Int))]))) ∧ Below SB W w6 ∧ CrAt w6 SB (n : Int) rn (some ⟨nb, no, none⟩) N cq pq pn pc ∧ Own w6 SB 3 1 (.slice (some ⟨og, 0, none⟩) M oc) M (iLF (ownN X N p f))) := fun v' w6 g1 g2 => by
              have ou := HZ.out.1.later hb4
              have hc4 : CrAt w4 SB (n : Int) rn (some ⟨nb, no, none⟩) N cq pq pn pc := (hb4.block _ (lt_of_block HZ.out.2.2.1)).trans HZ.out.2.2.1
              have oi := HZ.out.2.2.2.1.later hb4
              refine ⟨?_, (HZ.out.2.1.trans (hb4.mono HZ.out.2.2.2.2)).trans ((Below.refl SB _).grown g2 (Nat.le_trans HZ.out.2.2.2.2 hb4.size) fun k hk => (ou.lt k hk).1), (g2.block _ (lt_of_block hc4) fun e => ou.apart hc4 (by decide) SB e.symm rfl).trans hc4, oi.keptBy g2 fun k hk e => oi.clash ou (by decide) hk e⟩
              rw [List.length_append]
              exact (own_of_row g1).congr (tlF_app D ak (t : Int) D.length rfl _ rfl)
            clear hw4 hb4 hto
            go_upto_region 11 with fail
            go_region_law (refine step_app9 rfl (.tmp 43) (.tmp 51) 37 rfl SB 31 iT _ 2 16 Try.underlying37 hT1 hT2 hT3 hT4 rfl (by decide) u7 D.length _ (by simp [Act.eval, Act.put]) HO.out ⟨wz.heap.size, 0, none⟩ 1 1 [.int .i64 ak, .int .i64 (t : Int)] (by simp [Act.eval, Act.put]) rfl hA6.out (by simp [Value.oneCell']) (by have := HK.out.2.2.2.2.2.2.1; unfold maxLen; omega) (by have := HK.out.2.2.2.2.2.2.1; omega) (by show SB ≤ (World.alloc wz _).heap.size; rw [World.size_alloc]; exact Nat.le_succ_of_le HZ.out.2.2.2.2) ?_; intro v' w6 hown' hgrow hat; rw [HW4.out.1] at hgrow; have H6 := mhid (HAF.out v' w6 hown' hgrow); clear hown' hgrow hat)
            all_goals (
              go_wp2_with fail
              exact ⟨⟨k + 1, rfl, HK.out.2.2.2.2.1, by rw [HK.out.2.2.2.2.2.1, if_pos HTO.out]; exact H6.out.1, H6.out.2.1, H6.out.2.2.1, H6.out.2.2.2⟩, hmk⟩)
          · have dt : (at_ == (w : Int)) = false := by simp [hto]
            have HTO := mhid hto
            clear hto
            go_wp2_with fail
            exact ⟨⟨k + 1, rfl, HK.out.2.2.2.2.1, by rw [HK.out.2.2.2.2.2.1, if_neg HTO.out, List.append_nil]; exact HZ.out.1, HZ.out.2.1, HZ.out.2.2.1, HZ.out.2.2.2.1⟩, hmk⟩
        · have dk : decide ((k : Int) < (M : Int)) = false := by simp; omega
          have dkn : decide (k < M) = false := by simp; omega
          obtain rfl : k = M := by omega
          have hlt : ltr X N f w p k = lta X N f w p := ltr_big X N f w p k (by omega)
          rw [hlt, ← dueT_succ] at how
          have HK := mhid (And.intro how (And.intro hbr hcr))
          clear how hbr hcr hor hkm hk hM hlt hSBw
          go_wp2_with fail
          exact ⟨⟨f + 1, rfl, HR.out.2.2.2.2, HK.out.1, HK.out.2.1, HK.out.2.2⟩, hme⟩
    · have dl : decide ((f : Int) < (n : Int)) = false := by simp; omega
      have dln : decide (f < n) = false := by simp; omega
      obtain rfl : f = n := by omega
      have hDl := dueT_len X N p w f
      have hS9 : (dueT X N f p w).length ≤ 100000 := by
        have h8 : f * N ≤ 64 * 1000 := Nat.mul_le_mul HH.out.2.2.2 HH.out.2.2.1
        omega
      obtain ⟨D, hD⟩ : ∃ D, dueT X N f p w = D := ⟨_, rfl⟩
      rw [hD] at how hS9
      obtain ⟨S, hS⟩ : ∃ S, D.length = S := ⟨_, rfl⟩
      rw [hS] at how hS9
      have HDS := mhid (And.intro hD hS)
      obtain ⟨lq, lc, hlv⟩ : ∃ q c, u7 = .slice q S c := by
        rcases how.form with ⟨a, b⟩ | ⟨g, c, a, _⟩
        · exact ⟨none, 0, by rw [a, b]⟩
        · exact ⟨_, _, a⟩
      rw [hlv] at how ⊢
      have HS := mhid (And.intro how (And.intro hbr hS9))
      clear how hbr hcr hlt hf hDl hS9 hD hS hlv hSBw
      go_wp2_with fail
      clear c0 c1 c2 c3 dl dln
      go_loopw [12] (fun y wr => ∃ (i : Nat) (d : Nat → Int × Int), y = .int .i64 (i : Int) ∧ 1 ≤ i ∧ (i ≤ S ∨ i = 1) ∧ Own wr SB 31 2 (.slice lq S lc) S (thF d) ∧ Stb ltK 0 S (tlF D) d ∧ Srt ltK 0 i d ∧ Below SB W wr) (fun y _ => S - (intOf y).toNat)
      case atStart => exact ⟨1, _, rfl, Nat.le_refl _, .inr rfl, HS.out.1, Stb.refl _ _ _, Srt.small (by omega), HS.out.2.1⟩
      case round =>
        obtain ⟨i, d, rfl, hi1, hiS, how, hst, hso, hbr⟩ := hrel
        by_cases hlt : i < S
        · have dl : decide ((i : Int) < (S : Int)) = true := by simp; omega
          have dln : decide (i < S) = true := by simp; omega
          have hme := meas hlt
          have hS9 := HS.out.2.2
          have ei : IntKind.i64.wrap ((i : Int) + 1) = (i : Int) + 1 := by rw [IntKind.wrap_i64]; omega
          rcases how.form with ⟨_, h0⟩ | ⟨g, c', h1, _⟩
          · omega
          injection h1 with h1 _ h1c
          subst h1 h1c
          have HR := mhid (And.intro how (And.intro hst (And.intro hso (And.intro hbr hlt))))
          clear how hst hso hbr hlt hi1 hiS hS9
          go_wp2_with fail
          go_loopw [13] (fun y wr => ∃ j : Nat, y = .int .i64 (j : Int) ∧ j ≤ i ∧ Own wr SB 31 2 (.slice (some ⟨g, 0, none⟩) S lc) S (thF (rotF d j i (i + 1))) ∧ (∀ x, j ≤ x → x < i → ltK (d i) (d x) = true) ∧ Below SB W wr) (fun y _ => (intOf y).toNat)
          case atStart => exact ⟨i, rfl, Nat.le_refl _, by rw [ST.rot_self]; exact HR.out.1, fun x h1 h2 => by omega, HR.out.2.2.2.1⟩
          case round =>
            obtain ⟨j, rfl, hj, hrow, hall, hbr⟩ := hrel
            have hiS := HR.out.2.2.2.2
            have hS9 := HS.out.2.2
            have hSBw : SB ≤ wr.heap.size := by have := hbr.size; rw [← HH.out.2.1]; exact this
            have DONE : Hid (∀ w', Below wr.heap.size wr w' → (0 < j → ltK (d i) (d (j - 1)) = false) → ∃ (i' : Nat) (d' : Nat → Int × Int), Value.int .i64 ((i : Int) + 1) = .int .i64 (i' : Int) ∧ 1 ≤ i' ∧ (i' ≤ S ∨ i' = 1) ∧ Own w' SB 31 2 (.slice (some ⟨g, 0, none⟩) S lc) S (thF d') ∧ Stb ltK 0 S (tlF D) d' ∧ Srt ltK 0 i' d' ∧ Below SB W w') := fun w' hw' hstop => by
              obtain ⟨s1, s2⟩ := ins_right kcK_ord (Nat.zero_le j) hj HR.out.2.2.1 hall hstop
              exact ⟨i + 1, rotF d j i (i + 1), rfl, by omega, .inl hiS, hrow.later hw', HR.out.2.1.trans (s1.widen (Nat.le_refl _) hiS), s2, hbr.trans (hw'.mono hSBw)⟩
            by_cases hj0 : 0 < j
            · have dj : decide ((0 : Int) < (j : Int)) = true := by simp; omega
              have dj2 : decide (0 < j) = true := by simp; omega
              have ej : IntKind.i64.wrap ((j : Int) - 1) = ((j - 1 : Nat) : Int) := by rw [IntKind.wrap_i64]; omega
              obtain ⟨q9, hq⟩ : ∃ q, j - 1 = q := ⟨_, rfl⟩
              rw [hq] at ej DONE
              have j0 : (0 : Int) ≤ (j : Int) := by omega
              have j1 : (j : Int) < (S : Int) := by omega
              have q0 : (0 : Int) ≤ (q9 : Int) := by omega
              have q1 : (q9 : Int) < (S : Int) := by omega
              have nqj : q9 ≠ j := by omega
              have hX : rotF d j i (i + 1) j = d i := by
                rw [rotF_lo d (Nat.le_refl _) (by omega)]
                congr 1
                omega
              have hY : rotF d j i (i + 1) q9 = d q9 := rotF_out d (by omega) hj (.inl (by omega))
              obtain ⟨o, ho⟩ : ∃ o, q9 * 2 = o := ⟨_, rfl⟩
              have hjo : j * 2 = o + 2 := by omega
              have z0 : wr.cell? ⟨g, o + 2, none⟩ = some (.int .i64 (d i).1) := by rw [← hX, ← hjo]; have h8 := hrow.cell (j := j * 2) (by omega); unfold thF at h8; rw [if_pos (by omega), show j * 2 / 2 = j by omega] at h8; exact h8
              have z1 : wr.cell? ⟨g, o + 3, none⟩ = some (.int .i64 (d i).2) := by rw [← hX, show o + 3 = j * 2 + 1 by omega]; have h8 := hrow.cell (j := j * 2 + 1) (by omega); unfold thF at h8; rw [if_neg (by omega), show (j * 2 + 1) / 2 = j by omega] at h8; exact h8
              have z2 : wr.cell? ⟨g, o, none⟩ = some (.int .i64 (d q9).1) := by rw [← hY, ← ho]; have h8 := hrow.cell (j := q9 * 2) (by omega); unfold thF at h8; rw [if_pos (by omega), show q9 * 2 / 2 = q9 by omega] at h8; exact h8
              have z3 : wr.cell? ⟨g, o + 1, none⟩ = some (.int .i64 (d q9).2) := by rw [← hY, ← ho]; have h8 := hrow.cell (j := q9 * 2 + 1) (by omega); unfold thF at h8; rw [if_neg (by omega), show (q9 * 2 + 1) / 2 = q9 by omega] at h8; exact h8
              have fg : ∀ k, wr.frozen? ⟨g, k, none⟩ = false := fun k => by obtain ⟨cr, hcr, _⟩ := hrow.block; exact frz hcr _
              have lg := (hrow.lt g rfl).2
              obtain ⟨bq, hbq⟩ : ∃ b, ltK (d i) (d q9) = b := ⟨_, rfl⟩
              have dq : decide ((d i).1 < (d q9).1) = bq := by rw [← hbq]; exact (klt_eq _ _).symm
              have SW : Hid (bq = true → ∀ w', Below wr.heap.size wr w' → Own ((((w'.setCell ⟨g, o + 2, none⟩ (.int .i64 (d q9).1)).setCell ⟨g, o + 2 + 1, none⟩ (.int .i64 (d q9).2)).setCell ⟨g, o, none⟩ (.int .i64 (d i).1)).setCell ⟨g, o + 1, none⟩ (.int .i64 (d i).2)) SB 31 2 (.slice (some ⟨g, 0, none⟩) S lc) S (thF (rotF d q9 i (i + 1))) ∧ (∀ x, q9 ≤ x → x < i → ltK (d i) (d x) = true) ∧ Below SB W ((((w'.setCell ⟨g, o + 2, none⟩ (.int .i64 (d q9).1)).setCell ⟨g, o + 2 + 1, none⟩ (.int .i64 (d q9).2)).setCell ⟨g, o, none⟩ (.int .i64 (d i).1)).setCell ⟨g, o + 1, none⟩ (.int .i64 (d i).2))) := fun hb1 w' hw' => by
                have o9 := own_setT (own_setT (hrow.later hw') j (d q9).1 (d q9).2) q9 (d i).1 (d i).2
                rw [hjo, ho] at o9
                have hgB := (hrow.lt g rfl).1
                refine ⟨o9.congr fun t ht => ?_, fun x x1 x2 => ?_, ((((hbr.trans (hw'.mono hSBw)).setCell (p := ⟨g, o + 2, none⟩) hgB _).setCell (p := ⟨g, o + 2 + 1, none⟩) hgB _).setCell (p := ⟨g, o, none⟩) hgB _).setCell (p := ⟨g, o + 1, none⟩) hgB _⟩
                · have hst := ST.ins_step d i j hj0 hj
                  rw [hq] at hst
                  rw [← hst]
                  have key : ∀ u, (if u = q9 then ((d i).1, (d i).2) else if u = j then ((d q9).1, (d q9).2) else rotF d j i (i + 1) u) = swp (rotF d j i (i + 1)) j q9 u := fun u => by
                    unfold swp
                    by_cases e1 : u = q9
                    · rw [if_pos e1, e1, if_neg nqj, if_pos rfl, hX]
                    · rw [if_neg e1]
                      by_cases e2 : u = j
                      · rw [if_pos e2, if_pos e2, hY]
                      · rw [if_neg e2, if_neg e2, if_neg e1]
                  unfold thF
                  show (if t % 2 = 0 then Value.int .i64 (if t / 2 = q9 then ((d i).1, (d i).2) else if t / 2 = j then ((d q9).1, (d q9).2) else rotF d j i (i + 1) (t / 2)).1 else Value.int .i64 (if t / 2 = q9 then ((d i).1, (d i).2) else if t / 2 = j then ((d q9).1, (d q9).2) else rotF d j i (i + 1) (t / 2)).2) = _
                  rw [key]
                · by_cases e : x = q9
                  · rw [e, hbq, hb1]
                  · exact hall x (by omega) x2
              have HBQ := mhid hbq
              generalize (d i).1 = x1 at z0 dq SW
              generalize (d i).2 = x2 at z1 SW
              generalize (d q9).1 = y1 at z2 dq SW
              generalize (d q9).2 = y2 at z3 SW
              have HQJ : Hid (q9 < j ∧ j ≤ i) := ⟨by omega, hj⟩
              have HALL : Hid (Below SB W wr ∧ SB ≤ wr.heap.size) := ⟨hbr, hSBw⟩
              clear hrow hall hbr hj hX hY hbq hq hj0 hiS hS9 hSBw
              go_upto_region 16 with fail
              go_quiet (fail)
              cases bq
              · go_wp2_with fail
                exact ⟨DONE.out _ (below_drewNq _ _ _) (fun _ => HBQ.out), hme⟩
              · generalize hw2 : World.drewN wr _ = w2
                have hb2 : Below wr.heap.size wr w2 := by rw [← hw2]; exact below_drewNq _ _ _
                have r0 := (hb2.cell (p := ⟨g, o + 2, none⟩) lg).trans z0
                have r1 := (hb2.cell (p := ⟨g, o + 3, none⟩) lg).trans z1
                have r2 := (hb2.cell (p := ⟨g, o, none⟩) lg).trans z2
                have r3 := (hb2.cell (p := ⟨g, o + 1, none⟩) lg).trans z3
                have fg2 : ∀ k, w2.frozen? ⟨g, k, none⟩ = false := fun k => by rw [← hw2]; exact fg k
                have lg2 : g < w2.heap.size := Nat.lt_of_lt_of_le lg hb2.size
                have HB2 := mhid hb2
                clear hw2 hb2 z0 z1 z2 z3 fg lg
                go_wp2_with fail
                obtain ⟨g1, g2, g3⟩ := SW.out rfl w2 HB2.out
                exact ⟨⟨q9, rfl, Nat.le_of_lt (Nat.lt_of_lt_of_le HQJ.out.1 HQJ.out.2), g1.later ((Below.refl _ _).alloc (Nat.le_refl _) _), g2, g3.alloc (by simp only [World.setCell, Array.size_modify]; exact Nat.le_trans HALL.out.2 HB2.out.size) _⟩, by have h8 := HQJ.out.1; simp only [intOf]; omega⟩
            · have dj : decide ((0 : Int) < (j : Int)) = false := by simp; omega
              have dj2 : decide (0 < j) = false := by simp; omega
              have HJ0 := mhid hj0
              clear hrow hall hbr hj hj0 hiS hS9 hSBw
              go_upto_region 16 with fail
              go_quiet (fail)
              go_wp2_with fail
              exact ⟨DONE.out _ (below_drewNq _ _ _) (fun e => absurd e HJ0.out), hme⟩
        · have dl : decide ((i : Int) < (S : Int)) = false := by simp; omega
          have dln : decide (i < S) = false := by simp; omega
          have HF : Hid (Own wr SB 31 2 (.slice lq S lc) S (thF d) ∧ Stb ltK 0 S (tlF D) d ∧ Srt ltK 0 S d ∧ Below SB W wr) := ⟨how, hst, hso.sub (Nat.le_refl _) (by omega), hbr⟩
          clear how hst hso hbr hlt hi1 hiS
          go_wp2_with fail
          go_ret
          rw [HDS.out.1, HDS.out.2]
          exact ⟨_, d, rfl, HF.out.1, HF.out.2.1, HF.out.2.2.1, HF.out.2.2.2⟩
end Go.Proofs.Ytkfjcbnhohipgaa
