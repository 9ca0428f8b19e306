import Derived.Test.YtcibmbcfpecgpaaBytes
import Derived.Deep.RegionHeld3
namespace Go.Proofs.Ytcibmbcfpecgpaa
open Go.ChangeShapes Go.WideShapes Go.ChangeAt Go.RowKit

theorem news_two (W : World) (x y : Value) (T : TypeId) (A : Nat) (hA : A = W.heap.size) : ∀ j u, [x, y][j]? = some u → (W.alloc (.cells #[x, y] T)).cell? ((⟨A, 0, none⟩ : Addr).add j) = some u := by
  subst hA
  exact World.news_of_block (cs := #[x, y]) (heap_alloc_new W _)

set_option maxHeartbeats 1000000 in
theorem roomyBytes_any (sl : Option Addr) (L cap : Nat) (B : Nat → Int) (w : World) (hL : L ≤ 140737488351232) (h : BytesAt w sl L B) :
    Calls Try.prog 13 #[.slice sl L cap] w fun r w' => ∃ g cap', r = .returned (.tuple #[.slice (some ⟨g, 0, none⟩) L cap', .slice (some ⟨g, 0, none⟩) (L + 2) cap']) ∧ w'.ownsRow w.heap.size 5 1 (.slice (some ⟨g, 0, none⟩) (L + 2) cap') (L + 2) (bytesL B L ++ [.int .u8 165, .int .u8 90]) ∧ Below w.heap.size w w' := by
  obtain ⟨i5, hi5, ha5, hb5, hc5⟩ := info_parts Try.info5
  go_enter Try.func13, Try.ntmps13
  go_wp2_with fail
  refine (copyBytes_any sl L cap B _ (by omega) h).mono ?_
  rintro x w1 ⟨rfl, hown, hb1, hlt1⟩
  go_wp2_with (at_builtin; refine wpList_append_lies _ rfl (.tmp 6) (.tmp 7) 29 rfl w.heap.size 5 i5 (.int .u8 0) 1 1 Try.underlying29 hi5 ha5 hb5 hc5 rfl (by decide) (.slice (some ⟨w.heap.size, 0, none⟩) L L) L (bytesL B L) rfl (hown.alloc _) ⟨w1.heap.size, 0, none⟩ 2 2 [.int .u8 165, .int .u8 90] rfl rfl ?c1 ?c2 (by decide) ?c3 ?c4 ?c5 (w1.heap.size + 1) ?c6 ?_)
  case c1 => exact news_two _ _ _ _ _ rfl
  case c2 => intro u hu; simp at hu; rcases hu with rfl | rfl <;> rfl
  case c3 => unfold maxLen; omega
  case c4 => omega
  case c5 => simp; omega
  case c6 => simp
  intro g cap' w2 hown2 hgrow _ _
  have hb2 : Below w.heap.size w w2 := (hb1.alloc (by omega) _).grown hgrow (by simp; omega) (by simp [Value.ownBlock])
  obtain ⟨hcl, hcm⟩ : L + 2 ≤ cap' ∧ cap' ≤ maxLen := by
    obtain ⟨_, hx | ⟨g', cp, cur, hv, _, hh, h1, h2, hs, _⟩⟩ := hown2
    · simp at hx
    · simp at hv
      obtain ⟨rfl, rfl⟩ := hv
      exact ⟨h1, h2⟩
  unfold maxLen at hcm
  have q1 : (L : Int) ≤ (L : Int) + 2 := by omega
  have q2 : (L : Int) ≤ (cap' : Int) := by omega
  have q3 : L ≤ cap' := by omega
  clear hgrow hb1 hown
  go_wp2
  go_ret2
  exact ⟨g, cap', rfl, hown2, hb2⟩

/-- two rows of bytes of one length and one content -/
theorem sameBytes_eq (s1 s2 : Option Addr) (L c1 c2 : Nat) (B : Nat → Int) (w : World) (hL : L ≤ 1000000000000000) (h1 : BytesAt w s1 L B) (h2 : BytesAt w s2 L B) :
    Calls Try.prog 10 #[.slice s1 L c1, .slice s2 L c2] w fun r w' => r = .returned (.bool true) ∧ Below w.heap.size w w' := by
  have e0 : ((L : Int) != (L : Int)) = false := by simp
  go_enter Try.func10, Try.ntmps10
  go_wp2
  go_loopw [13] (fun i wr => ∃ m : Nat, m ≤ L ∧ i = .int .i64 m ∧ Below w.heap.size w wr) (fun i _ => L - (intOf i).toNat)
  case atStart => exact ⟨0, Nat.zero_le _, rfl, Below.refl _ _⟩
  case round =>
    obtain ⟨m, hm, rfl, hbx⟩ := hrel
    by_cases hlt : m < L
    · obtain ⟨hx | ⟨b1, o1, rfl, hl1, k1⟩, _⟩ := h1.below hbx
      · omega
      obtain ⟨hx | ⟨b2, o2, rfl, hl2, k2⟩, _⟩ := h2.below hbx
      · omega
      have x1 := k1 m hlt
      have x2 := k2 m hlt
      have i0 : (0 : Int) ≤ (m : Int) := by omega
      have i1 : (m : Int) < (L : Int) := by omega
      have e1 : (B m != B m) = false := by simp
      clear k1 k2 h1 h2
      go_wp2_with fail
      go_region_held3 (fun w' => w'.cell? ⟨b1, o1 + m, none⟩ = some (.int .u8 (B m)) ∧ w'.cell? ⟨b2, o2 + m, none⟩ = some (.int .u8 (B m))) (go_keep) (fail)
      go_wp2_with fail
      go_roundw
      case rel => exact ⟨m + 1, by omega, by go_num, hbx.drew⟩
      case measure => simp [intOf]; omega
    · go_wp2_with fail
      go_ret
      exact ⟨rfl, hbx⟩

theorem bytesAt_own {w : World} {base g n cap L : Nat} {B : Nat → Int} {ys : List Value} (h : w.ownsRow base 5 1 (.slice (some ⟨g, 0, none⟩) n cap) n (bytesL B L ++ ys)) (hn : L ≤ n) (bB : ∀ i, i < L → 0 ≤ B i ∧ B i ≤ 255) : BytesAt w (some ⟨g, 0, none⟩) L B := by
  have hlt : g < w.heap.size := by
    obtain ⟨_, hx | ⟨g', cp, cur, hv, _, hh, _⟩⟩ := h
    · simp at hx
    · simp at hv
      obtain ⟨rfl, _⟩ := hv
      exact lt_of_block hh
  refine ⟨.inr ⟨g, 0, rfl, hlt, fun i hi => ?_⟩, bB⟩
  rw [Nat.zero_add, h.cellAt i (by omega), List.getElem?_append_left (by rw [bytesL_len]; exact hi), bytesL_get hi]

set_option maxHeartbeats 1000000 in
theorem marked_any (sl : Option Addr) (L cap base g cap' : Nat) (B : Nat → Int) (w : World) (hL : L ≤ 140737488351232) (h : BytesAt w sl L B)
    (hown : w.ownsRow base 5 1 (.slice (some ⟨g, 0, none⟩) (L + 2) cap') (L + 2) (bytesL B L ++ [.int .u8 165, .int .u8 90])) :
    Calls Try.prog 17 #[.slice (some ⟨g, 0, none⟩) (L + 2) cap', .slice sl L cap] w fun r w' => r = .returned (.bool true) ∧ Below w.heap.size w w' := by
  have hB := bytesAt_own hown (by omega) h.2
  have hgl : g < w.heap.size := by
    obtain ⟨_, hx | ⟨g', cp, cur, hv, _, hh, _⟩⟩ := hown
    · simp at hx
    · simp at hv
      obtain ⟨rfl, _⟩ := hv
      exact lt_of_block hh
  have x1 : w.cell? ⟨g, L, none⟩ = some (.int .u8 165) := by rw [hown.cellAt L (by omega), List.getElem?_append_right (by rw [bytesL_len]; omega)]; simp [bytesL_len]
  have x2 : w.cell? ⟨g, L + 1, none⟩ = some (.int .u8 90) := by rw [hown.cellAt (L + 1) (by omega), List.getElem?_append_right (by rw [bytesL_len]; omega)]; simp [bytesL_len]
  obtain ⟨hcl, hcm⟩ : L + 2 ≤ cap' ∧ cap' ≤ maxLen := by
    obtain ⟨_, hx | ⟨g', cp, cur, hv, _, hh, h1, h2, hs, _⟩⟩ := hown
    · simp at hx
    · simp at hv
      obtain ⟨rfl, rfl⟩ := hv
      exact ⟨h1, h2⟩
  unfold maxLen at hcm
  have q1 : (L : Int) ≤ (L : Int) + 2 := by omega
  have q2 : (L : Int) ≤ (cap' : Int) := by omega
  have q3 : L ≤ cap' := by omega
  have q4 : (L : Int) < (L : Int) + 2 := by omega
  have q5 : (L : Int) + 1 < (L : Int) + 2 := by omega
  clear hown
  go_enter Try.func17, Try.ntmps17
  go_wp2_with fail
  refine (sameBytes_eq _ _ _ _ _ B _ (by omega) hB h).mono ?_
  rintro x w1 ⟨rfl, hb⟩
  have y1 := (hb.cell (p := ⟨g, L, none⟩) hgl).trans x1
  have y2 := (hb.cell (p := ⟨g, L + 1, none⟩) hgl).trans x2
  go_wp2_with fail
  go_ret
  exact ⟨rfl, hb⟩
end Go.Proofs.Ytcibmbcfpecgpaa
