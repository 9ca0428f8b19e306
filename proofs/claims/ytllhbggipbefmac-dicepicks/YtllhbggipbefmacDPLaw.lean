import Derived.Test.YtllhbggipbefmacDPick2
import Derived.Deep.AppendLies
import Derived.Deep.Onto
import Derived.SizedLaws
import Derived.ChangeOld
namespace Go.Proofs.Ytllhbggipbefmac
open Go.ChangeShapes Go.WideShapes Go.ChangeAt Go.RowKit
set_option linter.unusedVariables false

theorem Try.infoU64 : (Try.prog.info? 22).map (fun i => (i.zero, i.size, i.bytes)) = some (some (.int .u64 0), 1, 8) := by kernel_rfl
def lsU (n : Nat) (W : Nat → Int) : List Value := (List.range n).map (fun k => .int .u64 (W k))
theorem lsU_len (n : Nat) (W : Nat → Int) : (lsU n W).length = n := by simp [lsU]
theorem lsU_get {n k : Nat} {W : Nat → Int} (h : k < n) : (lsU n W)[k]? = some (.int .u64 (W k)) := by simp [lsU, h]
theorem lsU_snoc (n : Nat) (W : Nat → Int) (x : Int) (h : W n = x) : lsU n W ++ [.int .u64 x] = lsU (n + 1) W := by simp [lsU, List.range_succ, h]
theorem news_oneP (W : World) (x : Value) (T : TypeId) (A : Nat) (hA : A = W.heap.size) : ∀ j u, [x][j]? = some u → (W.alloc (.cells #[x] T)).cell? ((⟨A, 0, none⟩ : Addr).add j) = some u := by
  subst hA
  exact World.news_of_block (cs := #[x]) (heap_alloc_new W _)
theorem own_blockP {w : World} {base n : Nat} {T : TypeId} {v : Value} {xs : List Value} (h : w.ownsRow base T 1 v n xs) : ∀ k, v.ownBlock = some k → base ≤ k := by
  intro k hk
  obtain ⟨h0, h | ⟨g, cap, cur, h1, h2, h3⟩⟩ := h
  · rw [h.1] at hk; cases hk
  · rw [h1] at hk
    have e : g = k := by simpa [Value.ownBlock] using hk
    omega
/-- what the call's own row says: the weights, and 12345 -/
theorem own_cells {w : World} {base g L cap : Nat} {W : Nat → Int} (h : w.ownsRow base 22 1 (.slice (some ⟨g, 0, none⟩) (L + 1) cap) (L + 1) (lsU L W ++ [.int .u64 12345])) :
    g < w.heap.size ∧ L + 1 ≤ cap ∧ (∀ k, k < L → w.cell? ⟨g, k, none⟩ = some (.int .u64 (W k))) ∧ w.cell? ⟨g, L, none⟩ = some (.int .u64 12345) := by
  obtain ⟨h0, h | ⟨g', cap', cur, h1, h2, h3, h4, h5, h6, h7⟩⟩ := h
  · have := h.1; simp at this
  · have e : g = g' ∧ cap = cap' := by simpa using h1
    obtain ⟨rfl, rfl⟩ := e
    have hc : ∀ k, k < L + 1 → cur[k]? = (lsU L W ++ [.int .u64 12345])[k]? := by
      intro k hk
      rw [← h7, List.getElem?_take, if_pos (by omega)]
      simp
    refine ⟨?_, h4, fun k hk => ?_, ?_⟩
    · rw [Array.getElem?_eq_some_iff] at h3; exact h3.1
    · simp only [World.cell?, h3]
      rw [show (Option.isSome (none : Option Nat)) = false from rfl]
      have := hc k (by omega)
      rw [List.getElem?_append_left (by rw [lsU_len]; exact hk), lsU_get hk] at this
      simpa using this
    · have := hc L (by omega)
      rw [List.getElem?_append_right (by rw [lsU_len]; exact Nat.le_refl _), lsU_len, Nat.sub_self] at this
      simp only [World.cell?, h3]
      simpa using this

set_option maxRecDepth 100000 in
theorem picks_core (w : World) (s x t e : Int) (sl : Option Addr) (L cap : Nat) (W : Nat → Int) (hL : Hid (L * 8 ≤ 140737488351232)) (h : WAt w sl L W)
    (H1 : Hid (∀ (w : World) (sl : Option Addr) (cap : Nat), WAt w sl L W → Calls Try.prog 13 #[.int .u64 s, .slice sl L cap] w fun r w' => r = .returned (.tuple #[.int .i64 x, .int .u64 t, .int .i64 e]) ∧ w' = w))
    (H2 : Hid (∀ (w : World) (sl : Option Addr) (cap : Nat), WAt w sl L W → Calls Try.prog 14 #[.int .u64 s, .slice sl L cap] w fun r w' => r = .returned (.tuple #[.int .i64 x, .int .u64 t, .int .i64 e]) ∧ w' = w)) :
    Calls Try.prog 4 #[.int .u64 s, .slice sl L cap] w fun e w' => e = .returned (.bool true) ∧ Below w.heap.size w w' := by
  obtain ⟨i8, hi8, hz0, hz1, hz2⟩ := info_parts Try.infoU64
  have hL1 : (L : Int) ≤ 17592186043904 := by have := hL.out; omega
  go_enter Try.func4, Try.ntmps4
  go_wp2
  go_loopw [5, 6] (fun vl vi wr => ∃ k : Nat, k ≤ L ∧ vi = .int .i64 k ∧ wr.ownsRow w.heap.size 22 1 vl k (lsU k W) ∧ Below w.heap.size w wr) (fun _ vi _ => L - (intOf vi).toNat)
  case atStart => exact ⟨0, by omega, rfl, ⟨by simp [lsU], Or.inl ⟨rfl, rfl⟩⟩, Below.refl _ _⟩
  case round =>
    obtain ⟨k, hk, rfl, ho, hb⟩ := hrel
    have hsz := hb.size
    by_cases hlt : k < L
    · obtain ⟨b, off, rfl, hbl, hc⟩ := (h.below hb).at hlt
      have i0 : (0 : Int) ≤ (k : Int) := by omega
      have i1 : (k : Int) < (L : Int) := by omega
      obtain ⟨Y, hY⟩ : ∃ Y, W k = Y := ⟨_, rfl⟩
      have HY : Hid (W k = Y) := hY
      rw [hY] at hc
      clear hY
      go_wp2_with (at_builtin; refine wpList_append_lies _ rfl _ _ 31 rfl w.heap.size 22 i8 (.int .u64 0) 1 8 Try.underlying31 hi8 hz0 hz1 hz2 rfl (by decide) u5 _ _ rfl (ho.alloc _) ⟨wr.heap.size, 0, none⟩ 1 1 [.int .u64 Y] rfl rfl ?cA ?cB (by decide) ?cC ?cD ?cE (wr.heap.size + 1) ?cF ?_)
      case cA => exact news_oneP _ _ _ _ rfl
      case cB => intro x hx; simp at hx; subst hx; rfl
      case cC => have := hL.out; unfold maxLen; omega
      case cD => have := hL.out; omega
      case cE => simp; omega
      case cF => simp
      intro g cap y p q hg _
      go_wp2_with fail
      go_roundw
      case rel =>
        refine ⟨k + 1, by omega, by go_num, ?_, (hb.alloc hb.size _).grown q (by simp; omega) (own_blockP ho)⟩
        have p2 := p
        rw [lsU_snoc k W _ HY.out] at p2
        exact p2
      case measure => simp [intOf]; omega
    · obtain rfl : k = L := by omega
      go_wp2_with (at_builtin; refine wpList_append_lies _ rfl _ _ 31 rfl w.heap.size 22 i8 (.int .u64 0) 1 8 Try.underlying31 hi8 hz0 hz1 hz2 rfl (by decide) u5 _ _ rfl (ho.alloc _) ⟨wr.heap.size, 0, none⟩ 1 1 [.int .u64 12345] rfl rfl ?cA ?cB (by decide) ?cC ?cD ?cE (wr.heap.size + 1) ?cF ?_)
      case cA => exact news_oneP _ _ _ _ rfl
      case cB => intro x hx; simp at hx; subst hx; rfl
      case cC => have := hL.out; unfold maxLen; omega
      case cD => have := hL.out; omega
      case cE => simp; omega
      case cF => simp
      intro g cp y p q hg hgl
      have hby : Below w.heap.size w y := (hb.alloc hb.size _).grown q (by simp; omega) (own_blockP ho)
      obtain ⟨o1, o2, o3, o4⟩ := own_cells p
      have hwy := h.below hby
      have hown : WAt y (some ⟨g, 0, none⟩) k W := ⟨Or.inr ⟨g, 0, rfl, o1, fun i hi => by rw [Nat.zero_add]; exact o3 i hi⟩, h.2⟩
      have P1 : Hid (∀ cap, Calls Try.prog 13 #[.int .u64 s, .slice (some ⟨g, 0, none⟩) k cap] y fun r w' => r = .returned (.tuple #[.int .i64 x, .int .u64 t, .int .i64 e]) ∧ w' = y) := fun cap => H1.out y _ cap hown
      have P2 : Hid (∀ cap, Calls Try.prog 14 #[.int .u64 s, .slice sl k cap] y fun r w' => r = .returned (.tuple #[.int .i64 x, .int .u64 t, .int .i64 e]) ∧ w' = y) := fun cap => H2.out y _ cap hwy
      have c1 : (k : Int) ≤ (cp : Int) := by omega
      have c2 : (k : Int) < (k : Int) + 1 := by omega
      have k0 : (0 : Int) ≤ (k : Int) := by omega
      have HW : Hid (WAt y sl k W) := hwy
      have HO3 : Hid (∀ j, j < k → y.cell? ⟨g, j, none⟩ = some (.int .u64 (W j))) := o3
      clear H1 H2 hown p q ho hg hwy h o3
      go_wp2_with (first | (go_at_call 13; with_reducible refine (P1.out _).mono ?_; rintro e w' ⟨rfl, hw⟩; subst w') | (go_at_call 14; with_reducible refine (P2.out _).mono ?_; rintro e w' ⟨rfl, hw⟩; subst w'))
      clear P1 P2
      go_loopw [13] (fun vi wr => ∃ j : Nat, j ≤ k ∧ vi = .int .i64 j ∧ Below y.heap.size y wr) (fun vi _ => k - (intOf vi).toNat)
      case atStart => exact ⟨0, by omega, rfl, Below.refl _ _⟩
      case round =>
        obtain ⟨j, hj, rfl, hbw⟩ := hrel
        by_cases hjk : j < k
        · obtain ⟨b, off, rfl, hbl, hc⟩ := (HW.out.below hbw).at hjk
          have hd : wr.cell? ⟨g, j, none⟩ = some (.int .u64 (W j)) := by rw [hbw.cell (by show g < _; exact o1)]; exact HO3.out j hjk
          obtain ⟨Y, hY⟩ : ∃ Y, W j = Y := ⟨_, rfl⟩
          rw [hY] at hc hd
          clear hY
          have i0 : (0 : Int) ≤ (j : Int) := by omega
          have i1 : (j : Int) < (k : Int) := by omega
          have i2 : (j : Int) < (k : Int) + 1 := by omega
          go_wp2
          go_region
          all_goals go_wp2
          go_roundw
          case rel => exact ⟨j + 1, by omega, by go_num, hbw.drew⟩
          case measure => simp [intOf]; omega
        · have hd : wr.cell? ⟨g, k, none⟩ = some (.int .u64 12345) := by rw [hbw.cell (by show g < _; exact o1)]; exact o4
          have hz := hby.size
          go_wp2
          go_ret
          exact ⟨rfl, hby.trans (hbw.mono hz)⟩
theorem law_picks (s : Int) (hs : 0 ≤ s ∧ s ≤ 18446744073709551615) (sl : Option Addr) (L cap : Nat) (W : Nat → Int) (w : World) (hL : L * 8 ≤ 140737488351232) (h : WAt w sl L W) :
    Calls Try.prog 4 #[.int .u64 s, .slice sl L cap] w fun e w' => e = .returned (.bool true) ∧ Below w.heap.size w w' := by
  by_cases hm : 4096 < L
  · exact picks_core w s _ _ _ sl L cap W hL h (fun w sl cap _ => pick_many s sl L cap w hm) (fun w sl cap _ => rpick_many s sl L cap w hm)
  · by_cases ht : tot W L = 0
    · refine picks_core w s 0 s 21 sl L cap W hL h (fun w sl cap h => pick_none s sl L cap W w (by omega) h ht) (fun w sl cap h => ?_)
      have r := rpick_rest s 0 0 sl L cap 0 W w (by omega) h (fun c => absurd ht c) (fun c => absurd ht c) (by omega) (fun c => absurd ht c)
      rw [rpV_0 ht] at r
      exact r
    · have hsum : sumW W L ≤ 18446744073709551615 ∧ tot W L = sumW W L := by
        unfold tot at ht ⊢
        by_cases c : sumW W L ≤ 18446744073709551615
        · exact ⟨c, by rw [if_pos c]⟩
        · rw [if_neg c] at ht
          exact absurd rfl ht
      have hnn := sumW_nn h.2 (Nat.le_refl L)
      have hpos : 0 < tot W L ∧ tot W L ≤ 18446744073709551615 := by omega
      have hx0 := Int.emod_nonneg (U (mx (blw 8 (B s) (18446744073709551616 % tot W L)))) (b := tot W L) (by omega)
      have hx1 := Int.emod_lt_of_pos (U (mx (blw 8 (B s) (18446744073709551616 % tot W L)))) (b := tot W L) (by omega)
      obtain ⟨i, hi, hp⟩ := pl_ex (W := W) hx0 L (by omega)
      have hb1 := fun w => below_any s (tot W L) hs hpos w
      have hb2 := fun w => rbelow_any s (tot W L) hpos w
      refine picks_core w s i _ 0 sl L cap W hL h (fun w sl cap h => pick_ok s _ _ _ sl L cap i W w (by omega) h rfl ht hi hp (by omega) hb1) (fun w sl cap h => ?_)
      have r := rpick_rest s _ _ sl L cap i W w (by omega) h (fun _ => hi) (fun _ => hp) (by omega) (fun _ => hb2)
      rw [rpV_1 ht] at r
      exact r

theorem addr_add (b off i : Nat) : (⟨b, off, none⟩ : Addr).add i = ⟨b, off + i, none⟩ := by
  unfold Addr.add
  by_cases hi : i = 0 <;> simp [hi]
theorem view_u64s {H : Type} {enc : TypeId × Value → H} {W : World} {sl : Option Addr} {len cap : Nat} {d : DataW H} {p : List MemPlace}
    (h : DataW.Trod enc Try.prog W 0 (fun _ => true) true 31 (.slice sl len cap) d p) :
    ∃ B : Nat → Int, WAt W sl len B ∧ (len = 0 ∨ ∃ elems spare, d = .slice elems spare ∧ len ≤ elems.length) := by
  obtain ⟨fuel, hf⟩ := h
  rcases open_ints Try.underlying31 Try.underlying22 (by kernel_rfl) hf with ⟨hcs, _⟩ | ⟨x, l, c, zs, hcs, _, hl, hm, hz, hx, hcell, hwz⟩
  · simp [Value.cells] at hcs
    obtain ⟨_, rfl, _⟩ := hcs
    exact ⟨fun _ => 0, ⟨.inl rfl, fun i hi => by omega⟩, .inl rfl⟩
  · simp [Value.cells] at hcs
    obtain ⟨rfl, rfl, rfl⟩ := hcs
    simp only [if_true] at hz
    have bB : ∀ i, i < len → 0 ≤ zs.getD i 0 ∧ zs.getD i 0 ≤ 18446744073709551615 := by
      intro i hi
      have hi' : i < zs.length := by omega
      have := bounds_u64 (hwz _ (List.getElem_mem hi'))
      simpa [List.getD, hi'] using this
    refine ⟨fun i => zs.getD i 0, ⟨?_, bB⟩, ?_⟩
    · rcases Nat.eq_zero_or_pos len with z | z
      · exact .inl z
      · obtain ⟨b, off, spot⟩ := x
        have h0 := hcell 0 (by omega)
        have hspot : spot = none := by simpa [Addr.add] using World.cell?_spot h0
        subst hspot
        have hbl := World.block_lt_of_cell? _ _ h0
        exact .inr ⟨b, off, rfl, by simpa [Addr.add] using hbl, fun i hi => by simpa [addr_add] using hcell i (by omega)⟩
    · rcases Nat.eq_zero_or_pos len with z | z
      · exact .inl z
      · simp only [Prod.mk.injEq] at hx
        exact .inr ⟨_, _, hx.1, by simp [lits]; omega⟩
end Go.Proofs.Ytllhbggipbefmac
