import Derived.Test.YtllhbggipbefmacDShuf
import Derived.ArgAppend
import Derived.Deep.AppendLies
import Derived.Deep.Onto
namespace Go.Proofs.Ytllhbggipbefmac
open Go.ChangeShapes Go.WideShapes Go.ChangeAt Go.RowKit
set_option linter.unusedVariables false

/-- a list of n ints, F 0, F 1 ..: nil, or at the beginning of a block from L on -/
def LV (w : World) (ad : Option Addr) (L n cap : Nat) (F : Nat → Int) : Prop :=
  (ad = none ∧ n = 0 ∧ cap = 0) ∨ ∃ g arr, ad = some ⟨g, 0, none⟩ ∧ L ≤ g ∧ w.heap[g]? = some (.cells arr 3 (0, 0)) ∧ arr.size = cap ∧ n ≤ cap ∧ ∀ k, k < n → arr[k]? = some (.int .i64 (F k))

theorem LV.keep {w w' : World} {ad : Option Addr} {L n cap : Nat} {F : Nat → Int} (h : LV w ad L n cap F) (hb : Below w.heap.size w w') : LV w' ad L n cap F := by
  rcases h with h | ⟨g, arr, h1, h2, h3, h4⟩
  · exact Or.inl h
  · refine Or.inr ⟨g, arr, h1, h2, ?_, h4⟩
    rw [hb.block g (by rw [Array.getElem?_eq_some_iff] at h3; exact h3.1)]
    exact h3
theorem LV.congr {w : World} {ad : Option Addr} {L n cap : Nat} {F G : Nat → Int} (h : LV w ad L n cap F) (e : ∀ k, k < n → F k = G k) : LV w ad L n cap G := by
  rcases h with h | ⟨g, arr, h1, h2, h3, h4, h5, h6⟩
  · exact Or.inl h
  · exact Or.inr ⟨g, arr, h1, h2, h3, h4, h5, fun k hk => by rw [h6 k hk, e k hk]⟩
theorem LV.short {w : World} {ad : Option Addr} {L n m cap : Nat} {F : Nat → Int} (h : LV w ad L n cap F) (hm : m ≤ n) : LV w ad L m cap F := by
  rcases h with ⟨h1, h2, h3⟩ | ⟨g, arr, h1, h2, h3, h4, h5, h6⟩
  · exact Or.inl ⟨h1, by omega, h3⟩
  · exact Or.inr ⟨g, arr, h1, h2, h3, h4, by omega, fun k hk => h6 k (by omega)⟩
theorem LV.at {w : World} {ad : Option Addr} {L n cap k : Nat} {F : Nat → Int} (h : LV w ad L n cap F) (hk : k < n) : ∃ g, ad = some ⟨g, 0, none⟩ ∧ L ≤ g ∧ g < w.heap.size ∧ w.cell? ⟨g, k, none⟩ = some (.int .i64 (F k)) ∧ w.frozen? ⟨g, k, none⟩ = false := by
  rcases h with ⟨h1, h2, h3⟩ | ⟨g, arr, h1, h2, h3, h4, h5, h6⟩
  · omega
  · refine ⟨g, h1, h2, ?_, ?_, ?_⟩
    · rw [Array.getElem?_eq_some_iff] at h3; exact h3.1
    · simp [World.cell?, h3, h6 k hk]
    · simp [World.frozen?, h3]
theorem LV.set {w : World} {g L n cap k : Nat} {F : Nat → Int} (h : LV w (some ⟨g, 0, none⟩) L n cap F) (hk : k < n) (x : Int) : LV (w.setCell ⟨g, k, none⟩ (.int .i64 x)) (some ⟨g, 0, none⟩) L n cap (fun j => if j = k then x else F j) := by
  rcases h with ⟨h1, h2, h3⟩ | ⟨g', arr, h1, h2, h3, h4, h5, h6⟩
  · omega
  · obtain rfl : g = g' := by simpa using h1
    refine Or.inr ⟨g, arr.setIfInBounds k (.int .i64 x), rfl, h2, ?_, by simp [h4], h5, fun j hj => ?_⟩
    · simp [World.setCell, Array.getElem?_modify, h3]
    · by_cases e : j = k
      · subst e; simp [h4, show j < cap by omega]
      · show _ = some (Value.int .i64 (if j = k then x else F j))
        rw [if_neg e, Array.getElem?_setIfInBounds, if_neg (fun x => e x.symm), h6 j hj]
theorem LV.setOther {w : World} {ad : Option Addr} {g i L n cap : Nat} {F : Nat → Int} {v : Value} (h : LV w ad L n cap F) (hg : g < L) : LV (w.setCell ⟨g, i, none⟩ v) ad L n cap F := by
  rcases h with h | ⟨g', arr, h1, h2, h3, h4⟩
  · exact Or.inl h
  · exact Or.inr ⟨g', arr, h1, h2, by rw [Below.heap_setCell _ _ _ _ (show g' ≠ g by omega)]; exact h3, h4⟩
theorem LV.of_row {w : World} {g n : Nat} {F : Nat → Int} (h : RowV w g 3 n (ints F)) (L : Nat) (hL : L ≤ g) : LV w (some ⟨g, 0, none⟩) L n n F := by
  obtain ⟨arr, h1, h2, h3⟩ := h
  exact Or.inr ⟨g, arr, rfl, hL, h1, h2, Nat.le_refl _, h3⟩
def lsI (n : Nat) (F : Nat → Int) : List Value := (List.range n).map (fun k => .int .i64 (F k))
theorem lsI_len (n : Nat) (F : Nat → Int) : (lsI n F).length = n := by simp [lsI]
theorem lsI_get {n k : Nat} {F : Nat → Int} (h : k < n) : (lsI n F)[k]? = some (.int .i64 (F k)) := by simp [lsI, h]
theorem lsI_snoc (n : Nat) (F : Nat → Int) (x : Int) (h : F n = x) : lsI n F ++ [.int .i64 x] = lsI (n + 1) F := by simp [lsI, List.range_succ, h]
theorem lsI_congr {n : Nat} {F G : Nat → Int} (e : ∀ k, k < n → F k = G k) : lsI n F = lsI n G := by
  unfold lsI
  apply List.map_congr_left
  intro k hk
  rw [e k (by simpa using hk)]
theorem LV.of_own {w : World} {base n : Nat} {v : Value} {F : Nat → Int} (h : w.ownsRow base 3 1 v n (lsI n F)) : ∃ ad cap, v = .slice ad n cap ∧ LV w ad base n cap F := by
  obtain ⟨h0, h | ⟨g, cap, cur, h1, h2, h3, h4, h5, h6, h7⟩⟩ := h
  · exact ⟨none, 0, by rw [h.1, h.2], Or.inl ⟨rfl, h.2, rfl⟩⟩
  · refine ⟨some ⟨g, 0, none⟩, cap, h1, Or.inr ⟨g, cur, rfl, h2, h3, by omega, h4, fun k hk => ?_⟩⟩
    have e1 : (cur.toList.take (n * 1))[k]? = some (.int .i64 (F k)) := by rw [h7]; exact lsI_get hk
    rw [List.getElem?_take, if_pos (by omega)] at e1
    simpa using e1
theorem LV.own {w : World} {ad : Option Addr} {L n cap : Nat} {F : Nat → Int} (h : LV w ad L n cap F) (hcap : cap ≤ maxLen) : w.ownsRow L 3 1 (.slice ad n cap) n (lsI n F) := by
  refine ⟨by rw [lsI_len, Nat.mul_one], ?_⟩
  rcases h with ⟨h1, h2, h3⟩ | ⟨g, arr, h1, h2, h3, h4, h5, h6⟩
  · exact Or.inl ⟨by rw [h1, h2, h3], h2⟩
  · refine Or.inr ⟨g, cap, arr, by rw [h1], h2, h3, h5, hcap, by omega, ?_⟩
    apply List.ext_getElem?
    intro k
    rw [List.getElem?_take]
    by_cases hk : k < n
    · rw [if_pos (by omega), lsI_get hk]
      simpa using h6 k hk
    · rw [if_neg (by omega), List.getElem?_eq_none (by rw [lsI_len]; omega)]

theorem same_any (w : World) (a b : Option Addr) (La Lb n ca cb : Nat) (F G : Nat → Int) (hn : n ≤ 5000) (ha : LV w a La n ca F) (hb : LV w b Lb n cb G) (hFG : Hid (∀ k, k < n → F k = G k)) :
    Calls Try.prog 19 #[.slice a n ca, .slice b n cb] w fun e w' => e = .returned (.bool true) ∧ Below w.heap.size w w' := by
  go_enter Try.func19, Try.ntmps19
  go_wp2
  go_loopw [5] (fun vi wr => ∃ k : Nat, k ≤ n ∧ vi = .int .i64 k ∧ Below w.heap.size w wr) (fun vi _ => n - (intOf vi).toNat)
  case atStart => exact ⟨0, by omega, rfl, Below.refl _ _⟩
  case round =>
    obtain ⟨k, hk, rfl, hbw⟩ := hrel
    by_cases hlt : k < n
    · obtain ⟨ga, rfl, -, -, ca1, -⟩ := (ha.keep hbw).at hlt
      obtain ⟨gb, rfl, -, -, cb1, -⟩ := (hb.keep hbw).at hlt
      rw [hFG.out k hlt] at ca1
      have i0 : (0 : Int) ≤ (k : Int) := by omega
      have i1 : (k : Int) < (n : Int) := by omega
      obtain ⟨x, hx⟩ : ∃ x, G k = x := ⟨_, rfl⟩
      rw [hx] at ca1 cb1
      clear hx ha hb
      go_wp2
      go_region
      all_goals go_wp2
      go_roundw
      case rel => exact ⟨k + 1, by omega, by go_num, hbw.drew⟩
      case measure => simp [intOf]; omega
    · go_wp2
      go_ret
      exact ⟨rfl, hbw⟩
theorem ends_any (w : World) (a : Option Addr) (La n ca : Nat) (F : Nat → Int) (mark : Int) (hn : n ≤ 5000) (ha : LV w a La (n + 64) ca F) (hF : Hid (∀ k, n ≤ k → k < n + 64 → F k = mark)) :
    Calls Try.prog 21 #[.slice a (n + 64) ca, .int .i64 n, .int .i64 mark] w fun e w' => e = .returned (.bool true) ∧ w' = w := by
  go_enter Try.func21, Try.ntmps21
  go_wp2
  go_loop [7] (fun vi => ∃ k : Nat, n ≤ k ∧ k ≤ n + 64 ∧ vi = .int .i64 k) (fun vi => n + 64 - (intOf vi).toNat)
  case atStart => exact ⟨n, by omega, by omega, rfl⟩
  case round =>
    obtain ⟨k, hk1, hk, rfl⟩ := hrel
    by_cases hlt : k < n + 64
    · obtain ⟨ga, rfl, -, -, ca1, -⟩ := ha.at hlt
      rw [hF.out k hk1 hlt] at ca1
      have i0 : (0 : Int) ≤ (k : Int) := by omega
      have i1 : (k : Int) < (n : Int) + 64 := by omega
      clear ha
      go_wp2
      go_round
      case rel => exact ⟨k + 1, by omega, by omega, by go_num⟩
      case measure => simp [intOf]; omega
    · go_wp2
      go_ret
      exact ⟨rfl, rfl⟩

theorem news_oneD (W : World) (x : Value) (T : TypeId) (A : Nat) (hA : A = W.heap.size) : ∀ j u, [x][j]? = some u → (W.alloc (.cells #[x] T)).cell? ((⟨A, 0, none⟩ : Addr).add j) = some u := by
  subst hA
  exact World.news_of_block (cs := #[x]) (heap_alloc_new W _)
theorem own_block {w : World} {base n : Nat} {T : TypeId} {v : Value} {xs : List Value} (h : w.ownsRow base T 1 v n xs) : ∀ k, v.ownBlock = some k → base ≤ k := by
  intro k hk
  obtain ⟨h0, h | ⟨g, cap, cur, h1, h2, h3⟩⟩ := h
  · rw [h.1] at hk; cases hk
  · rw [h1] at hk
    have e : g = k := by simpa [Value.ownBlock] using hk
    omega
def app (n : Nat) (F : Nat → Int) (mark : Int) : Nat → Int := fun k => if k < n then F k else mark
theorem app_lo {n k : Nat} {F : Nat → Int} {m : Int} (h : k < n) : app n F m k = F k := by simp [app, h]
theorem app_hi {n k : Nat} {F : Nat → Int} {m : Int} (h : n ≤ k) : app n F m k = m := by simp [app, show ¬ k < n by omega]

set_option maxRecDepth 100000 in
theorem grown_any (w : World) (a : Option Addr) (L n : Nat) (F : Nat → Int) (mark : Int) (hn : n ≤ 5000) (ha : LV w a L n n F) :
    Calls Try.prog 20 #[.slice a n n, .int .i64 mark] w fun e w' => ∃ ad cap, e = .returned (.slice ad (n + 64) cap) ∧ LV w' ad w.heap.size (n + 64) cap (app n F mark) ∧ Below w.heap.size w w' := by
  obtain ⟨i3, hi3, hz0, hz1, hz2⟩ := info_parts Try.infoInt
  go_enter Try.func20, Try.ntmps20
  go_wp2
  go_loopw [0, 5] (fun vl vi wr => ∃ k : Nat, k ≤ 64 ∧ vi = .int .i64 k ∧ (k = 0 → vl = .slice a n n) ∧ (0 < k → wr.ownsRow w.heap.size 3 1 vl (n + k) (lsI (n + k) (app n F mark))) ∧ Below w.heap.size w wr) (fun _ vi _ => 64 - (intOf vi).toNat)
  case atStart => exact ⟨0, by omega, rfl, fun _ => rfl, fun h => absurd h (by omega), Below.refl _ _⟩
  case round =>
    obtain ⟨k, hk, rfl, h0, h1, hb⟩ := hrel
    have H0 : Hid (k = 0 → u0 = .slice a n n) := h0
    have H1 : Hid (0 < k → wr.ownsRow w.heap.size 3 1 u0 (n + k) (lsI (n + k) (app n F mark))) := h1
    clear h0 h1
    by_cases hlt : k < 64
    · by_cases hz : k = 0
      · subst hz
        have hu := H0.out rfl
        subst hu
        have hav := ha.keep hb
        clear H0 H1
        go_wp2_with (at_builtin; refine wpList_append_grows _ rfl _ _ 39 rfl 3 i3 (.int .i64 0) 1 8 Try.underlying39 hi3 hz0 hz1 hz2 rfl (by decide) a n n (lsI n F) rfl ?cN ?cL ?cO ⟨wr.heap.size, 0, none⟩ 1 1 [.int .i64 mark] rfl rfl ?cA ?cB ?cF ?cC ?cD ?_)
        case cN => intro e; rcases hav with h | ⟨g, arr, h1, _⟩
                   · exact ⟨h.2.1, h.2.2⟩
                   · rw [h1] at e; cases e
        case cL => rw [lsI_len, Nat.mul_one]
        case cO =>
          intro b hb2 j u hu
          have hjn : j < n := by
            rcases Nat.lt_or_ge j n with h | h
            · exact h
            · rw [List.getElem?_eq_none (by rw [lsI_len]; exact h)] at hu; cases hu
          obtain ⟨g, e1, _, hg, c1, _⟩ := hav.at hjn
          rw [e1] at hb2
          obtain rfl : (⟨g, 0, none⟩ : Addr) = b := by simpa using hb2
          rw [lsI_get hjn] at hu
          have e2 : (⟨g, 0, none⟩ : Addr).add j = ⟨g, j, none⟩ := by simp [Addr.add]; omega
          rw [e2, ← hu, ← c1]
          exact World.cell?_of_block (Below.heap_alloc wr _ g hg)
        case cA => exact news_oneD _ _ _ _ rfl
        case cB => intro x hx; simp at hx; subst hx; rfl
        case cF => omega
        case cC => unfold maxLen; omega
        case cD => omega
        intro v' w' ho hg
        go_wp2_with fail
        go_roundw
        case rel =>
          refine ⟨1, by omega, by go_num, fun h => absurd h (by omega), fun _ => ?_, ?_⟩
          · have e1 : lsI n F ++ [.int .i64 mark] = lsI (n + 1) (app n F mark) := by
              rw [lsI_congr (G := app n F mark) (fun k hk => (app_lo hk).symm)]
              exact lsI_snoc n _ _ (app_hi (Nat.le_refl _))
            rw [← e1]
            have := hb.size
            exact ho.mono (by omega)
          · refine (hb.alloc hb.size _).grown hg (by have := hb.size; simp; omega) (fun k h => by cases h)
        case measure => simp [intOf]
      · have ho := H1.out (by omega)
        clear H0 H1
        have hsz := hb.size
        go_wp2_with (at_builtin; refine wpList_append_lies _ rfl _ _ 39 rfl w.heap.size 3 i3 (.int .i64 0) 1 8 Try.underlying39 hi3 hz0 hz1 hz2 rfl (by decide) u0 _ _ rfl (ho.alloc _) ⟨wr.heap.size, 0, none⟩ 1 1 [.int .i64 mark] rfl rfl ?cA ?cB (by decide) ?cC ?cD ?cE (wr.heap.size + 1) ?cF ?_)
        case cA => exact news_oneD _ _ _ _ rfl
        case cB => intro x hx; simp at hx; subst hx; rfl
        case cC => unfold maxLen; omega
        case cD => omega
        case cE => simp; omega
        case cF => simp
        intro g cap y p q hg _
        go_wp2_with fail
        go_roundw
        case rel =>
          refine ⟨k + 1, by omega, by go_num, fun h => absurd h (by omega), fun _ => ?_, ?_⟩
          · rw [lsI_snoc (n + k) _ _ (app_hi (by omega))] at p
            exact p
          · exact (hb.alloc hb.size _).grown q (by simp; omega) (own_block ho)
        case measure => simp [intOf]; omega
    · have ho := H1.out (by omega)
      obtain rfl : k = 64 := by omega
      obtain ⟨ad, cap, rfl, hlv⟩ := LV.of_own ho
      clear ho H0 H1
      go_wp2
      go_ret
      exact ⟨ad, cap, rfl, hlv, hb⟩
end Go.Proofs.Ytllhbggipbefmac
