import Derived.Test.YtpeojhhbinfekaaClockP
namespace Go.Proofs.Ytpeojhhbinfekaa
open Go.ChangeShapes Go.WideShapes Go.ChangeAt Go.RowKit

theorem addN_fit {t d : Int} (c : t + d ≤ 18446744073709551615) : addN t d = t + d ∧ addE t d = 0 := by simp [addN, addE, c]
theorem addN_over {t d : Int} (c : ¬ t + d ≤ 18446744073709551615) : addN t d = 0 ∧ addE t d = 10 := by simp [addN, addE, c]
theorem adv_fit {t d : Int} (c : t + d ≤ 18446744073709551615) : advT t 0 d = t + d ∧ advE t 0 d = 0 := by simp [advT, advE, c]
theorem adv_over {t d : Int} (c : ¬ t + d ≤ 18446744073709551615) : advT t 0 d = t ∧ advE t 0 d = 10 := by simp [advT, advE, c]
theorem adv_err {t d : Int} : advT t 10 d = t ∧ advE t 10 d = 10 := by simp [advT, advE]

theorem hHeldOf4 {a b c d : Prop} (h : a ∧ b ∧ c ∧ d) : d := h.2.2.2
theorem hHeldOf {a b : Prop} {c : Prop} (h : a ∧ b ∧ c) : c := h.2.2

set_option maxHeartbeats 4000000 in
set_option maxRecDepth 100000 in
theorem law_clocks (a0 : Int) (h0 : 0 ≤ a0 ∧ a0 ≤ 18446744073709551615) (b off len cap : Nat) (K C D : Nat → Int) (w : World)
    (hlen : len * 24 ≤ 140737488351232) (hb : 0 < len → b < w.heap.size)
    (hK : ∀ i, i < len → w.cell? ⟨b, off + i * 3, none⟩ = some (.int .i64 (K i))) (hC : ∀ i, i < len → w.cell? ⟨b, off + i * 3 + 1, none⟩ = some (.int .i64 (C i))) (hD : ∀ i, i < len → w.cell? ⟨b, off + i * 3 + 2, none⟩ = some (.int .u64 (D i)))
    (bD : ∀ i, i < len → 0 ≤ D i ∧ D i ≤ 18446744073709551615) :
    Calls Try.prog 6 #[.int .u64 a0, .slice (some ⟨b, off, none⟩) len cap] w fun e w' => e = .returned (.bool true) ∧ Below w.heap.size w w' := by
  go_enter Try.func6, Try.ntmps6
  go_wp2_with (go_at_call 13; refine (newClock_any _ _).mono ?_; rintro e w' ⟨rfl, rfl⟩)
  go_loopw [6, 7, 8, 27] (fun vc vt ve i wr => ∃ (k gc cc gt ct ge ce n : Nat) (ps : List Nat) (ts es : List Int), k ≤ len ∧ n ≤ k + 1 ∧ i = .int .i64 k ∧ vc = .slice (some ⟨gc, 0, none⟩) n cc ∧ vt = .slice (some ⟨gt, 0, none⟩) n ct ∧ ve = .slice (some ⟨ge, 0, none⟩) n ce ∧ Inv w.heap.size w wr gc cc gt ct ge ce n ps ts es) (fun _ _ _ i _ => len - (intOf i).toNat)
  case atStart => exact ⟨0, w.heap.size + 1, 1, w.heap.size + 1 + 1, 1, w.heap.size + 1 + 1 + 1, 1, 1, [w.heap.size], [a0], [0], Nat.zero_le _, by omega, rfl, rfl, rfl, rfl, inv_start w a0 h0⟩
  case round =>
    obtain ⟨k, gc, cc, gt, ct, ge, ce, n, ps, ts, es, hk, hn, rfl, rfl, rfl, rfl, hI⟩ := hrel
    have hn0 := hI.pos
    by_cases hlt : k < len
    · have c0 : wr.cell? ⟨b, off + k * 3, none⟩ = some (.int .i64 (K k)) := (hI.bl.cell (by exact hb (by omega))).trans (hK k hlt)
      have c1 : wr.cell? ⟨b, off + k * 3 + 1, none⟩ = some (.int .i64 (C k)) := (hI.bl.cell (by exact hb (by omega))).trans (hC k hlt)
      have c2 : wr.cell? ⟨b, off + k * 3 + 2, none⟩ = some (.int .u64 (D k)) := (hI.bl.cell (by exact hb (by omega))).trans (hD k hlt)
      obtain ⟨i, hi, hidx⟩ := idx_any (C k) n hn0 (by omega)
      obtain ⟨p, t, e, hp, ht, he, hBp, hpl, hpk, n1, n2, n3, btt, bee⟩ := hI.cl hi
      obtain ⟨x1, x2, x3, f2, f3⟩ := hI.cells hp ht he hi
      obtain ⟨g1, g2, g3, l1, l2, l3, _⟩ := hI.apart
      have hi0 : (0 : Int) ≤ (i : Int) := by omega
      have hi1 : (i : Int) < (n : Int) := by omega
      have bdk := bD k hlt
      have HP : Hid (ps[i]? = some p) := hp
      have HT : Hid (ts[i]? = some t) := ht
      have HE : Hid (es[i]? = some e) := he
      have HPK : Hid (wr.heap[p]? = some (.cells #[.int .u64 t, .int .i64 e] 51 (0, 0))) := hpk
      clear hp ht he hpk hK hC hD
      by_cases k0 : K k = 0
      · rcases bee with rfl | rfl
        · by_cases c : t + (D k) ≤ 18446744073709551615
          · obtain ⟨q1, q2⟩ := addN_fit c
            obtain ⟨q3, q4⟩ := adv_fit c
            have hpk2 : ((wr.setCell ⟨gt, i, none⟩ (.int .u64 (t + D k))).alloc (.cells #[.int .i64 0, .int .i64 (C k), .int .u64 (D k)] 42)).heap[p]? = some (.cells #[.int .u64 t, .int .i64 0] 51 (0, 0)) := (heap_alloc_set hpl n2).trans HPK.out
            have HPK2 : Hid (((wr.setCell ⟨gt, i, none⟩ (.int .u64 (t + D k))).alloc (.cells #[.int .i64 0, .int .i64 (C k), .int .u64 (D k)] 42)).heap[p]? = some (.cells #[.int .u64 t, .int .i64 0] 51 (0, 0))) := hpk2
            clear hpk2
            go_wp2_with fail
            go_region_held3 (fun w' => w'.cell? ⟨gt, i, none⟩ = some (.int .u64 t) ∧ w'.cell? ⟨wr.heap.size, 2, none⟩ = some (.int .u64 (D k))) (go_keep) (first | (go_at_call 8; refine (refAdd_any _ _ btt bdk _).mono ?_; rintro e w' ⟨rfl, rfl⟩))
            go_wp2_with fail
            go_region_held3 (fun w' => w'.cell? ⟨gc, i, none⟩ = some (.pointer (some ⟨p, 0, none⟩)) ∧ w'.cell? ⟨wr.heap.size, 2, none⟩ = some (.int .u64 (D k)) ∧ w'.cell? ⟨ge, i, none⟩ = some (.int .i64 0)) (first | (exact startA x1 x3 l1 l3 g1 (Ne.symm g3)) | (refine keep3 ?_ z6 (Ne.symm n1) (Nat.ne_of_gt hpl) (Ne.symm n3); assumption)) (first | (go_at_call 14; refine (advance_any p t 0 (D k) _ ?_ btt bdk (Or.inl rfl)).mono ?_; (exact HPK2.out); rintro e w' ⟨rfl, z1, z2, z3, z4, z5, z6⟩))
            rw [q3, q4] at z5
            have hN : Inv w.heap.size w w' gc cc gt ct ge ce n ps (ts.set i (t + D k)) es := hI.advA (.cells #[.int .i64 0, .int .i64 (C k), .int .u64 (D k)] 42) HP.out HE.out hi z1 z2 z3 (by rw [z4]; simp) z5 z6 (by omega) HT.out
            clear z5 z6 HPK2
            go_wp2_with fail
            go_roundw
            case rel => exact ⟨k + 1, gc, cc, gt, ct, ge, ce, n, ps, _, _, by omega, by omega, by go_num, rfl, rfl, rfl, hN⟩
            case measure => simp [intOf]; omega
          · obtain ⟨q1, q2⟩ := addN_over c
            obtain ⟨q3, q4⟩ := adv_over c
            have hpk2 : ((wr.setCell ⟨ge, i, none⟩ (.int .i64 10)).alloc (.cells #[.int .i64 0, .int .i64 (C k), .int .u64 (D k)] 42)).heap[p]? = some (.cells #[.int .u64 t, .int .i64 0] 51 (0, 0)) := (heap_alloc_set hpl n3).trans HPK.out
            have HPK2 : Hid (((wr.setCell ⟨ge, i, none⟩ (.int .i64 10)).alloc (.cells #[.int .i64 0, .int .i64 (C k), .int .u64 (D k)] 42)).heap[p]? = some (.cells #[.int .u64 t, .int .i64 0] 51 (0, 0))) := hpk2
            clear hpk2
            go_wp2_with fail
            go_region_held3 (fun w' => w'.cell? ⟨gt, i, none⟩ = some (.int .u64 t) ∧ w'.cell? ⟨wr.heap.size, 2, none⟩ = some (.int .u64 (D k))) (go_keep) (first | (go_at_call 8; refine (refAdd_any _ _ btt bdk _).mono ?_; rintro e w' ⟨rfl, rfl⟩))
            go_wp2_with fail
            go_region_held3 (fun w' => w'.cell? ⟨gc, i, none⟩ = some (.pointer (some ⟨p, 0, none⟩)) ∧ w'.cell? ⟨wr.heap.size, 2, none⟩ = some (.int .u64 (D k)) ∧ w'.cell? ⟨ge, i, none⟩ = some (.int .i64 10)) (first | (exact startB x1 x3 l1 l3 g2) | (refine keep3 ?_ z6 (Ne.symm n1) (Nat.ne_of_gt hpl) (Ne.symm n3); assumption)) (first | (go_at_call 14; refine (advance_any p t 0 (D k) _ ?_ btt bdk (Or.inl rfl)).mono ?_; (exact HPK2.out); rintro e w' ⟨rfl, z1, z2, z3, z4, z5, z6⟩))
            rw [q3, q4] at z5
            have hN : Inv w.heap.size w w' gc cc gt ct ge ce n ps ts (es.set i 10) := hI.advB (.cells #[.int .i64 0, .int .i64 (C k), .int .u64 (D k)] 42) HP.out HT.out hi z1 z2 z3 (by rw [z4]; simp) z5 z6
            clear z5 z6 HPK2
            go_wp2_with fail
            go_roundw
            case rel => exact ⟨k + 1, gc, cc, gt, ct, ge, ce, n, ps, _, _, by omega, by omega, by go_num, rfl, rfl, rfl, hN⟩
            case measure => simp [intOf]; omega
        · obtain ⟨q3, q4⟩ := @adv_err t (D k)
          have hpk2 : ((wr.setCell ⟨ge, i, none⟩ (.int .i64 10)).alloc (.cells #[.int .i64 0, .int .i64 (C k), .int .u64 (D k)] 42)).heap[p]? = some (.cells #[.int .u64 t, .int .i64 10] 51 (0, 0)) := (heap_alloc_set hpl n3).trans HPK.out
          have HPK2 : Hid (((wr.setCell ⟨ge, i, none⟩ (.int .i64 10)).alloc (.cells #[.int .i64 0, .int .i64 (C k), .int .u64 (D k)] 42)).heap[p]? = some (.cells #[.int .u64 t, .int .i64 10] 51 (0, 0))) := hpk2
          clear hpk2
          go_wp2_with fail
          go_region_held3 (fun w' => w'.cell? ⟨gt, i, none⟩ = some (.int .u64 t) ∧ w'.cell? ⟨wr.heap.size, 2, none⟩ = some (.int .u64 (D k))) (go_keep) (first | (go_at_call 8; refine (refAdd_any _ _ btt bdk _).mono ?_; rintro e w' ⟨rfl, rfl⟩))
          go_wp2_with fail
          go_region_held3 (fun w' => w'.cell? ⟨gc, i, none⟩ = some (.pointer (some ⟨p, 0, none⟩)) ∧ w'.cell? ⟨wr.heap.size, 2, none⟩ = some (.int .u64 (D k)) ∧ w'.cell? ⟨ge, i, none⟩ = some (.int .i64 10)) (first | (exact startB x1 x3 l1 l3 g2) | (refine keep3 ?_ z6 (Ne.symm n1) (Nat.ne_of_gt hpl) (Ne.symm n3); assumption)) (first | (go_at_call 14; refine (advance_any p t 10 (D k) _ ?_ btt bdk (Or.inr rfl)).mono ?_; (exact HPK2.out); rintro e w' ⟨rfl, z1, z2, z3, z4, z5, z6⟩))
          rw [q3, q4] at z5
          have hN : Inv w.heap.size w w' gc cc gt ct ge ce n ps ts (es.set i 10) := hI.advB (.cells #[.int .i64 0, .int .i64 (C k), .int .u64 (D k)] 42) HP.out HT.out hi z1 z2 z3 (by rw [z4]; simp) z5 z6
          clear z5 z6 HPK2
          go_wp2_with fail
          go_roundw
          case rel => exact ⟨k + 1, gc, cc, gt, ct, ge, ce, n, ps, _, _, by omega, by omega, by go_num, rfl, rfl, rfl, hN⟩
          case measure => simp [intOf]; omega
      · by_cases k1 : K k = 1
        · have hN : Inv w.heap.size w (wr.alloc (.cells #[.int .i64 1, .int .i64 (C k), .int .u64 (D k)] 42)).drew gc cc gt ct ge ce n ps ts es := hI.ext ((Below.refl _ _).alloc (Nat.le_refl _) _).drew
          go_wp2_with fail
          go_region_held3 (fun w' => w'.cell? ⟨gc, i, none⟩ = some (.pointer (some ⟨p, 0, none⟩)) ∧ w'.cell? ⟨gt, i, none⟩ = some (.int .u64 t) ∧ w'.heap[p]? = some (.cells #[.int .u64 t, .int .i64 e] 51 (0, 0))) (first | (exact ⟨(World.cell?_of_block (Below.heap_alloc _ _ _ l1)).trans x1, (World.cell?_of_block (Below.heap_alloc _ _ _ l2)).trans x2, (Below.heap_alloc _ _ _ hpl).trans HPK.out⟩) | assumption) (first | (go_at_call 15; refine (now_any p t e _ ?_).mono ?_; (exact hHeldOf (by assumption)); rintro e w' ⟨rfl, rfl⟩))
          go_wp2_with fail
          go_roundw
          case rel => exact ⟨k + 1, gc, cc, gt, ct, ge, ce, n, ps, ts, es, by omega, by omega, by go_num, rfl, rfl, rfl, hN⟩
          case measure => simp [intOf]; omega
        · by_cases k2 : K k = 2
          · have hN : Inv w.heap.size w (wr.alloc (.cells #[.int .i64 2, .int .i64 (C k), .int .u64 (D k)] 42)).drew gc cc gt ct ge ce n ps ts es := hI.ext ((Below.refl _ _).alloc (Nat.le_refl _) _).drew
            go_wp2_with fail
            go_region_held3 (fun w' => w'.cell? ⟨gc, i, none⟩ = some (.pointer (some ⟨p, 0, none⟩)) ∧ w'.cell? ⟨ge, i, none⟩ = some (.int .i64 e) ∧ w'.heap[p]? = some (.cells #[.int .u64 t, .int .i64 e] 51 (0, 0))) (first | (exact ⟨(World.cell?_of_block (Below.heap_alloc _ _ _ l1)).trans x1, (World.cell?_of_block (Below.heap_alloc _ _ _ l3)).trans x3, (Below.heap_alloc _ _ _ hpl).trans HPK.out⟩) | assumption) (first | (go_at_call 16; refine (err_any p t e _ ?_).mono ?_; (exact hHeldOf (by assumption)); rintro e w' ⟨rfl, rfl⟩))
            go_wp2_with fail
            go_roundw
            case rel => exact ⟨k + 1, gc, cc, gt, ct, ge, ce, n, ps, ts, es, by omega, by omega, by go_num, rfl, rfl, rfl, hN⟩
            case measure => simp [intOf]; omega
          · by_cases k3 : K k = 3
            · obtain ⟨i36, hi36, ha36, hb36, hc36⟩ := info_parts Try.info36
              obtain ⟨i22, hi22, ha22, hb22, hc22⟩ := info_parts Try.info22
              obtain ⟨i3, hi3, ha3, hb3, hc3⟩ := info_parts Try.info3
              have hsz := hI.sz
              have R1 := (((hI.rc.alloc (.cells #[.int .i64 3, .int .i64 (C k), .int .u64 (D k)] 42)).alloc (.cells #[.int .u64 (D k), .int .i64 0] 51)).alloc (.cells #[.pointer (some ⟨wr.heap.size + 1, 0, none⟩)] 36))
              go_wp2_with (first | (go_at_call 13; refine (newClock_any _ _).mono ?_; rintro e w' ⟨rfl, rfl⟩) | (at_builtin; refine wpList_append_lies _ rfl (.tmp 112) (.tmp 114) 38 rfl w.heap.size 36 i36 (.pointer none) 1 8 Try.underlying38 hi36 ha36 hb36 hc36 rfl (by decide) (.slice (some ⟨gc, 0, none⟩) n cc) n (ptrs ps) rfl R1 ⟨wr.heap.size + 1 + 1, 0, none⟩ 1 1 [.pointer (some ⟨wr.heap.size + 1, 0, none⟩)] rfl rfl ?cA1 ?cB1 (by decide) ?cC1 ?cD1 ?cE1 (wr.heap.size + 3) ?cF1 ?_))
              case cA1 => exact news_one _ _ _ _ (by simp)
              case cB1 => intro u hu; simp at hu; subst hu; rfl
              case cC1 => unfold maxLen; omega
              case cD1 => omega
              case cE1 => simp; omega
              case cF1 => simp
              intro gc' cc' w1 hc1 hg1 _ _
              obtain ⟨r2, r3, y1, y2, z1, m1, m2, _, _, _, _⟩ := hI.push1 _ _ _ hc1 hg1
              have d1 : w1.cell? ⟨wr.heap.size, 2, none⟩ = some (.int .u64 (D k)) := by unfold World.cell?; simp only [m2]; rfl
              have lt1 : wr.heap.size < w1.heap.size := by omega
              clear m1 m2 R1
              go_wp2_with (at_builtin; refine wpList_append_lies _ rfl (.tmp 116) (.tmp 119) 39 rfl w.heap.size 22 i22 (.int .u64 0) 1 8 Try.underlying39 hi22 ha22 hb22 hc22 rfl (by decide) (.slice (some ⟨gt, 0, none⟩) n ct) n (ts.map (Value.int .u64)) rfl (r2.alloc _) ⟨w1.heap.size, 0, none⟩ 1 1 [.int .u64 (D k)] rfl rfl ?cA2 ?cB2 (by decide) ?cC2 ?cD2 ?cE2 (w1.heap.size + 1) ?cF2 ?_)
              case cA2 => exact news_one _ _ _ _ (by simp)
              case cB2 => intro u hu; simp at hu; subst hu; rfl
              case cC2 => unfold maxLen; omega
              case cD2 => omega
              case cE2 => simp; omega
              case cF2 => simp
              intro gt' ct' w2 ht2 hg2 _ _
              have r3' := row_kept (r3.alloc _) hg2 (Ne.symm g3)
              have s2 := hg2.size
              simp at s2
              go_wp2_with (at_builtin; refine wpList_append_lies _ rfl (.tmp 121) (.tmp 122) 40 rfl w.heap.size 3 i3 (.int .i64 0) 1 8 Try.underlying40 hi3 ha3 hb3 hc3 rfl (by decide) (.slice (some ⟨ge, 0, none⟩) n ce) n (es.map (Value.int .i64)) rfl (r3'.alloc _) ⟨w2.heap.size, 0, none⟩ 1 1 [.int .i64 0] rfl rfl ?cA3 ?cB3 (by decide) ?cC3 ?cD3 ?cE3 (w2.heap.size + 1) ?cF3 ?_)
              case cA3 => exact news_one _ _ _ _ (by simp)
              case cB3 => intro u hu; simp at hu; subst hu; rfl
              case cC3 => unfold maxLen; omega
              case cD3 => omega
              case cE3 => simp; omega
              case cF3 => simp
              intro ge' ce' w3 he3 hg3 _ _
              have hN := hI.push3 _ _ _ _ hc1 hg1 ht2 hg2 he3 hg3 bdk
              clear hc1 hg1 ht2 hg2 he3 hg3 r2 r3 r3' d1
              go_wp2_with fail
              go_roundw
              case rel => exact ⟨k + 1, gc', cc', gt', ct', ge', ce', n + 1, _, _, _, by omega, by omega, by go_num, rfl, rfl, rfl, hN⟩
              case measure => simp [intOf]; omega
            · have hN : Inv w.heap.size w (wr.alloc (.cells #[.int .i64 (K k), .int .i64 (C k), .int .u64 (D k)] 42)) gc cc gt ct ge ce n ps ts es := hI.ext ((Below.refl _ _).alloc (Nat.le_refl _) _)
              have m0 : (K k == 0) = false := by simp [k0]
              have m1 : (K k == 1) = false := by simp [k1]
              have m2 : (K k == 2) = false := by simp [k2]
              have m3 : (K k == 3) = false := by simp [k3]
              go_wp2_with fail
              go_roundw
              case rel => exact ⟨k + 1, gc, cc, gt, ct, ge, ce, n, ps, ts, es, by omega, by omega, by go_num, rfl, rfl, rfl, hN⟩
              case measure => simp [intOf]; omega
    · clear hK hC hD
      go_wp2_with fail
      go_loopw [127] (fun i wx => ∃ m : Nat, m ≤ n ∧ i = .int .i64 m ∧ Below wr.heap.size wr wx) (fun i _ => n - (intOf i).toNat)
      case atStart => exact ⟨0, Nat.zero_le _, rfl, Below.refl _ _⟩
      case round =>
        obtain ⟨m, hm, rfl, hbx⟩ := hrel
        by_cases hmn : m < n
        · have hJ := hI.ext hbx
          obtain ⟨p, t, e, hp, ht, he, hBp, hpl, hpk, n1, n2, n3, btt, bee⟩ := hJ.cl hmn
          obtain ⟨x1, x2, x3, f2, f3⟩ := hJ.cells hp ht he hmn
          have hi0 : (0 : Int) ≤ (m : Int) := by omega
          have hi1 : (m : Int) < (n : Int) := by omega
          have HPK := (show Hid _ from hpk)
          clear hp ht he hpk
          go_wp2_with fail
          go_region_held3 (fun w' => w'.cell? ⟨gc, m, none⟩ = some (.pointer (some ⟨p, 0, none⟩)) ∧ w'.cell? ⟨gt, m, none⟩ = some (.int .u64 t) ∧ w'.cell? ⟨ge, m, none⟩ = some (.int .i64 e) ∧ w'.heap[p]? = some (.cells #[.int .u64 t, .int .i64 e] 51 (0, 0))) (first | (exact ⟨x1, x2, x3, HPK.out⟩) | assumption) (first | (go_at_call 15; refine (now_any p t e _ ?_).mono ?_; (exact hHeldOf4 (by assumption)); rintro e w' ⟨rfl, rfl⟩) | (go_at_call 16; refine (err_any p t e _ ?_).mono ?_; (exact hHeldOf4 (by assumption)); rintro e w' ⟨rfl, rfl⟩))
          go_wp2_with fail
          go_roundw
          case rel => exact ⟨m + 1, by omega, by go_num, hbx.drew⟩
          case measure => simp [intOf]; omega
        · go_wp2_with fail
          go_ret
          exact ⟨rfl, hI.bl.trans (hbx.mono hI.sz)⟩
end Go.Proofs.Ytpeojhhbinfekaa
