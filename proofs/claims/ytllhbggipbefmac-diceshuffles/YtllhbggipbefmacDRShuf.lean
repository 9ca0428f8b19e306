import Derived.Test.YtllhbggipbefmacDList
namespace Go.Proofs.Ytllhbggipbefmac
open Go.ChangeShapes Go.WideShapes Go.ChangeAt Go.RowKit
set_option linter.unusedVariables false

theorem rshuffle_err (s n : Int) (h : n < 0 ∨ 4096 < n) (w : World) :
    Calls Try.prog 18 #[.int .u64 s, .int .i64 n] w fun e w' => e = .returned (.tuple #[.slice none 0 0, .int .u64 s, .int .i64 22]) ∧ w' = w := by
  go_enter Try.func18, Try.ntmps18
  by_cases h0 : n < 0
  · go_wp2
    go_returns
    exact ⟨rfl, rfl⟩
  · have h1 : 4096 < n := by omega
    go_wp2
    go_returns
    exact ⟨rfl, rfl⟩

set_option maxRecDepth 100000 in
theorem rshuffle_ok (s : Int) (hs : 0 ≤ s ∧ s ≤ 18446744073709551615) (n : Nat) (hn : n ≤ 4096) (w : World) :
    Calls Try.prog 18 #[.int .u64 s, .int .i64 n] w fun e w' => ∃ ad cap, e = .returned (.tuple #[.slice ad n cap, .int .u64 (U (shuf n (B s)).2), .int .i64 0]) ∧ LV w' ad w.heap.size n cap (shuf n (B s)).1 ∧ Below w.heap.size w w' := by
  obtain ⟨i3, hi3, hz0, hz1, hz2⟩ := info_parts Try.infoInt
  have d1 : decide ((n : Int) < 0) = false := by simp
  have d2 : decide ((4096 : Int) < n) = false := by simp; omega
  go_enter Try.func18, Try.ntmps18
  go_wp2
  clear d1 d2
  go_loopw [7, 8] (fun vl vi wr => ∃ k : Nat, k ≤ n ∧ vi = .int .i64 k ∧ wr.ownsRow w.heap.size 3 1 vl k (lsI k (fun j => (j : Int))) ∧ Below w.heap.size w wr) (fun _ vi _ => n - (intOf vi).toNat)
  case atStart => exact ⟨0, by omega, rfl, ⟨by simp [lsI], Or.inl ⟨rfl, rfl⟩⟩, Below.refl _ _⟩
  case round =>
    obtain ⟨k, hk, rfl, ho, hb⟩ := hrel
    by_cases hlt : k < n
    · have hsz := hb.size
      go_wp2_with (at_builtin; refine wpList_append_lies _ rfl _ _ 39 rfl w.heap.size 3 i3 (.int .i64 0) 1 8 Try.underlying39 hi3 hz0 hz1 hz2 rfl (by decide) u7 _ _ rfl (ho.alloc _) ⟨wr.heap.size, 0, none⟩ 1 1 [.int .i64 k] rfl rfl ?cA ?cB (by decide) ?cC ?cD ?cE (wr.heap.size + 1) ?cF ?_)
      case cA => exact news_oneD _ _ _ _ rfl
      case cB => intro x hx; simp at hx; subst hx; rfl
      case cC => unfold maxLen; omega
      case cD => omega
      case cE => simp; omega
      case cF => simp
      intro g cap y p q hg _
      go_wp2_with fail
      go_roundw
      case rel =>
        refine ⟨k + 1, by omega, by go_num, ?_, (hb.alloc hb.size _).grown q (by simp; omega) (own_block ho)⟩
        have p2 := p
        rw [lsI_snoc k (fun j => (j : Int)) _ rfl] at p2
        exact p2
      case measure => simp [intOf]; omega
    · obtain rfl : k = n := by omega
      obtain ⟨ad, cap, rfl, hlv⟩ := LV.of_own ho
      clear ho
      go_wp2
      obtain ⟨wo, rfl⟩ : ∃ wo : World, wo = wr := ⟨_, rfl⟩
      go_loopw [0, 9] (fun vs vi wr => ∃ (c : Nat) (st : BitVec 64) (f : Nat → Int) (z : Int), vs = .int .u64 (U st) ∧ vi = .int .i64 z ∧ (z = (c : Int) ∧ c < k ∨ z = -1 ∧ k = 0 ∧ c = 0) ∧ shuf k (B s) = shufGo c f st ∧ LV wr ad w.heap.size k cap f ∧ Below w.heap.size w wr) (fun _ vi _ => (intOf vi + 1).toNat)
      case atStart =>
        exact ⟨k - 1, B s, fun j => (j : Int), (k : Int) - 1, by rw [U_B hs], rfl, by omega, rfl, hlv, hb⟩
      case round =>
        obtain ⟨c, st, f, z, rfl, rfl, hz, hsh, hlv2, hb2⟩ := hrel
        have HS : Hid (shuf k (B s) = shufGo c f st) := hsh
        clear hsh hlv hb hs
        by_cases hlt : 1 ≤ z
        · obtain ⟨rfl, hck⟩ : z = (c : Int) ∧ c < k := by omega
          clear hz
          have hc1 : 1 ≤ c := by omega
          have hbl := fun w => rbelow_any (U st) ((c : Int) + 1) (by omega) w
          have HB : Hid (∀ w : World, Calls Try.prog 27 #[.int .u64 (U st), .int .u64 ((c : Int) + 1)] w fun e w' => e = .returned (.tuple #[.int .u64 (jj c st : Nat), .int .u64 (U (rj c st)), .int .i64 0]) ∧ w' = w) := fun w => by
            have h := hbl w
            rw [B_U] at h
            rw [← jj_cast]
            exact h
          clear hbl
          have hj := jj_le c st
          obtain ⟨j, hje⟩ : ∃ j, jj c st = j := ⟨_, rfl⟩
          have HJ : Hid (jj c st = j) := hje
          rw [hje] at HB hj
          clear hje
          obtain ⟨g, rfl, hgl, hgs, hci, hfi⟩ := hlv2.at hck
          obtain ⟨g', hgg, -, -, hcj, hfj⟩ := hlv2.at (show j < k by omega)
          obtain rfl : g = g' := by simpa using hgg
          clear hgg
          have i0 : (0 : Int) ≤ (c : Int) := by omega
          have i1 : (c : Int) < (k : Int) := by omega
          have j0 : (0 : Int) ≤ (j : Int) := by omega
          have j1 : (j : Int) < (k : Int) := by omega
          obtain ⟨xi, hxi⟩ : ∃ x, f c = x := ⟨_, rfl⟩
          obtain ⟨xj, hxj⟩ : ∃ x, f j = x := ⟨_, rfl⟩
          have HR : Hid (LV wr (some ⟨g, 0, none⟩) w.heap.size k cap f) := hlv2
          rw [hxi] at hci
          rw [hxj] at hcj
          have hres : LV ((wr.setCell ⟨g, c, none⟩ (.int .i64 xj)).setCell ⟨g, j, none⟩ (.int .i64 xi)) (some ⟨g, 0, none⟩) w.heap.size k cap (swp f c j) := by
            refine ((hlv2.set hck xj).set (show j < k by omega) xi).congr (fun m _ => ?_)
            unfold swp
            rw [hxi, hxj]
          have HRES : Hid (LV ((wr.setCell ⟨g, c, none⟩ (.int .i64 xj)).setCell ⟨g, j, none⟩ (.int .i64 xi)) (some ⟨g, 0, none⟩) w.heap.size k cap (swp f c j)) := hres
          have HBR : Hid (Below w.heap.size w ((wr.setCell ⟨g, c, none⟩ (.int .i64 xj)).setCell ⟨g, j, none⟩ (.int .i64 xi))) :=
            (hb2.setCell (p := ⟨g, c, none⟩) hgl _).setCell (p := ⟨g, j, none⟩) hgl _
          have HSH : Hid (shuf k (B s) = shufGo (c - 1) (swp f c j) (rj c st)) := by
            have h1 := HS.out
            rw [show c = (c - 1) + 1 by omega, shufGo_succ, show (c - 1) + 1 = c by omega, HJ.out] at h1
            exact h1
          clear hres HR HS HJ hxi hxj hlv2
          by_cases hcje : c = j
          · subst hcje
            obtain rfl : xi = xj := by
              rw [hci] at hcj
              simpa using hcj
            go_wp2_with (go_at_call 27; with_reducible refine (HB.out _).mono ?_; rintro e w' ⟨rfl, hw⟩; subst w')
            go_roundw
            case rel => exact ⟨c - 1, rj c st, swp f c c, (c : Int) - 1, rfl, rfl, Or.inl ⟨by omega, by omega⟩, HSH.out, HRES.out, HBR.out⟩
            case measure => simp [intOf]
          · have hnc : (⟨g, j, none⟩ : Addr) ≠ ⟨g, c, none⟩ := by intro e; cases e; exact hcje rfl
            go_wp2_with (go_at_call 27; with_reducible refine (HB.out _).mono ?_; rintro e w' ⟨rfl, hw⟩; subst w')
            go_roundw
            case rel => exact ⟨c - 1, rj c st, swp f c j, (c : Int) - 1, rfl, rfl, Or.inl ⟨by omega, by omega⟩, HSH.out, HRES.out, HBR.out⟩
            case measure => simp [intOf]
        · have hc0 : c = 0 := by omega
          subst hc0
          have h1 := HS.out
          rw [shufGo_zero] at h1
          have HS1 : Hid (shuf k (B s) = (f, st)) := h1
          clear HS h1
          go_wp2
          go_returns
          refine ⟨ad, cap, ?_, ?_, hb2⟩
          · rw [HS1.out]; rfl
          · rw [HS1.out]; exact hlv2
end Go.Proofs.Ytllhbggipbefmac
