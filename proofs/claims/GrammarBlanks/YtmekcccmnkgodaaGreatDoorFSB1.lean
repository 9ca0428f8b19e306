import Derived.Test.YtmekcccmnkgodaaGreatDoorFSP8
import Derived.Test.YtmekcccmnkgodaaGreatDoorFLMark
import Derived.Test.YtmekcccmnkgodaaGreatDoorFGB6
import Derived.Test.YtmekcccmnkgodaaGreatDoorFLF1
import Derived.BigRegion
import Derived.BigQuiet
import Derived.Deep.RegionHeld3
namespace Go.Proofs.YtmekcccmnkgodaaGreatDoor
open Go.ChangeShapes Go.WideShapes Go.ChangeAt Go.RowKit
set_option linter.unusedVariables false
set_option linter.unusedSimpArgs false

/-! ### a text that is taken, laid out anew: pure -/
theorem rd_rest (a : Bs) (ha : a ≠ []) (k v : Nat) (h : rd a = .ok k a v) (x : Bs) (hx : okRest x) : rd (a ++ x) = .ok k a v := by
  obtain ⟨d, r, rfl⟩ : ∃ d r, a = d :: r := by
    cases a with
    | nil => exact absurd rfl ha
    | cons d r => exact ⟨d, r, rfl⟩
  unfold rd at h ⊢
  rw [show headIs pL (d :: r ++ x) = headIs pL (d :: r) from rfl, show headIs pD (d :: r ++ x) = headIs pD (d :: r) from rfl]
  split at h
  · rename_i hL
    rw [if_pos hL]
    dsimp only at h ⊢
    split at h
    · cases h
    · rename_i hl
      injection h with h1 h2 h3
      have hall : ∀ c ∈ d :: r, pN c = true := fun c hc => by rw [← h2] at hc; exact twp_all pN _ c hc
      rw [tw_stop pN x (rest_N hx) _ hall]
      rw [h2] at hl h1
      rw [if_neg hl, h1, h3]
  · rename_i hL
    rw [if_neg hL]
    split at h
    · rename_i hD
      rw [if_pos hD]
      dsimp only at h ⊢
      split at h
      · cases h
      · rename_i hh
        have ht : (d :: r).takeWhile pD = d :: r := by
          split at h
          · injection h with _ hb _
          · cases h
        have hall : ∀ c ∈ d :: r, pD c = true := fun c hc => by rw [← ht] at hc; exact twp_all pD _ c hc
        rw [tw_stop pD x (rest_D hx) _ hall, List.drop_left, if_neg (by rw [rest_N hx]; simp)]
        rw [ht] at h
        exact h
    · rename_i hD
      rw [if_neg hD]
      dsimp only at h ⊢
      split at h
      · cases h
      · rename_i hm
        injection h with h1 h2 h3
        have hle := markL_leS (d :: r)
        have hge : (d :: r).length ≤ markL (d :: r) := by
          have := congrArg List.length h2
          rw [List.length_take] at this
          simp only [List.length_cons] at this ⊢
          omega
        have hlen : markL (d :: r) = (d :: r).length := by
          cases r with
          | nil => rfl
          | cons e r => simp only [List.length_cons] at hge ⊢; omega
        have hml : markL (d :: r ++ x) = markL (d :: r) := by
          cases r with
          | cons e r => rfl
          | nil =>
            rcases hx with rfl | ⟨c, y, rfl, hc⟩
            · rfl
            · have hd : ∀ c : UInt8, (c = 32 ∨ c = 9 ∨ c = 10 ∨ c = 13 ∨ c = 35) → c.toNat = 32 ∨ c.toNat = 9 ∨ c.toNat = 10 ∨ c.toNat = 13 ∨ c.toNat = 35 := by
                rintro c (rfl | rfl | rfl | rfl | rfl) <;> decide
              have hc' := hd c hc
              show (if (d.toNat = 60 ∨ d.toNat = 62 ∨ d.toNat = 124 ∨ d.toNat = 38) ∧ c.toNat = d.toNat then 2 else if (d.toNat = 60 ∨ d.toNat = 62 ∨ d.toNat = 61 ∨ d.toNat = 33) ∧ c.toNat = 61 then 2 else 1) = 1
              rw [if_neg (by omega), if_neg (by omega)]
        have htk : (d :: r ++ x).take (markL (d :: r ++ x)) = d :: r := by
          rw [hml, hlen]
          exact List.take_left
        rw [h2] at hm h1
        rw [htk, if_neg hm, h1, h3]
theorem scan_blanks (a b : Nat) (Y : Bs) (l c cnt : Nat) : scan (List.replicate a 10 ++ (List.replicate b 32 ++ Y)) l c cnt = scan Y (l + a) ((if 0 < a then 1 else c) + b) cnt := by
  have hb : ∀ (b l c : Nat), scan (List.replicate b 32 ++ Y) l c cnt = scan Y l (c + b) cnt := by
    intro b
    induction b with
    | zero => intro l c; rfl
    | succ b ih =>
      intro l c
      rw [List.replicate_succ, List.cons_append, scan_bl _ _ _ _ _ (.inl rfl), ih]
      congr 1
      omega
  induction a generalizing l c with
  | zero => rw [List.replicate_zero, List.nil_append, hb]; rfl
  | succ a ih =>
    rw [List.replicate_succ, List.cons_append, scan_nl _ _ _ _ _ rfl, ih]
    have e1 : l + 1 + a = l + (a + 1) := by omega
    have e2 : (if 0 < a then 1 else 1) = 1 := by split <;> rfl
    rw [e1, e2, if_pos (by omega)]
/-- a token that stands at the very place is what the text begins with -/
theorem scan_here (s : Bs) (l c cnt : Nat) (t : Tk) (ts : List Tk) (h : (scan s l c cnt).1 = t :: ts) (hl : t.line = (l : Int)) (hc : t.col = (c : Int)) : ∃ (x : UInt8) (r u : Bs), s = x :: r ∧ t.text = x :: u := by
  cases s with
  | nil => rw [scan_nil] at h; cases h
  | cons x r =>
    have far : ∀ (s : Bs) (l' c' : Nat), (l < l' ∨ l = l' ∧ c < c') → (scan s l' c' cnt).1 = t :: ts → False := fun s l' c' hf he => by
      have := scan_after s.length s l' c' cnt (Nat.le_refl _) t (by rw [he]; simp)
      omega
    by_cases h1 : x.toNat = 10
    · rw [scan_nl _ _ _ _ _ h1] at h
      exact (far r _ _ (.inl (by omega)) h).elim
    · by_cases h2 : x.toNat = 32 ∨ x.toNat = 9 ∨ x.toNat = 13
      · rw [scan_bl _ _ _ _ _ h2] at h
        exact (far r _ _ (.inr ⟨rfl, by omega⟩) h).elim
      · by_cases h3 : x.toNat = 35
        · rw [scan_cm _ _ _ _ _ h3] at h
          exact (far _ _ _ (.inr ⟨rfl, by omega⟩) h).elim
        · have hst : startT x := ⟨h1, fun e => h2 (.inl e), fun e => h2 (.inr (.inl e)), fun e => h2 (.inr (.inr e)), h3⟩
          cases hr : rd (x :: r) with
          | err e => rw [scan_er _ _ _ _ _ _ hst hr] at h; cases h
          | ok k u v =>
            by_cases hcn : cnt = 16384
            · subst hcn
              rw [scan_full _ _ _ _ _ _ _ hst hr] at h
              cases h
            · rw [scan_ok _ _ _ _ _ _ _ _ hst hr hcn] at h
              injection h with h _
              obtain ⟨⟨y, hy⟩, hlen⟩ := rd_front _ _ _ _ _ hr
              cases u with
              | nil => simp at hlen
              | cons d u =>
                rw [List.cons_append] at hy
                injection hy with hy _
                subst hy
                exact ⟨_, _, u, rfl, by rw [← h]⟩
/-- the tokens as a text, each at its place -/
def layL : List Tk → Int → Int → Bs
  | [], _, _ => []
  | t :: ts, l, c => List.replicate (t.line - l).toNat 10 ++ (List.replicate (t.col - (if 0 < t.line - l then 1 else c)).toNat 32 ++ (t.text ++ layL ts t.line (t.col + (t.text.length : Int))))
/-- no token stands ahead of where the one before ends -/
def OrdL : List Tk → Int → Int → Prop
  | [], _, _ => True
  | t :: ts, l, c => 0 ≤ t.line - l ∧ 0 ≤ t.col - (if 0 < t.line - l then 1 else c) ∧ OrdL ts t.line (t.col + (t.text.length : Int))
/-- each token is one by itself, and no two run together -/
def FlwL : List Tk → Prop
  | [] => True
  | [t] => 1 ≤ t.line ∧ 1 ≤ t.col ∧ alB t = true
  | t :: u :: ts => (1 ≤ t.line ∧ 1 ≤ t.col ∧ alB t = true) ∧ flwB t u = true ∧ FlwL (u :: ts)
theorem back : ∀ (n : Nat) (s : Bs) (line col cnt : Nat) (ts : List Tk), s.length ≤ n → s.length ≤ 65536 → scan s line col cnt = (ts, none) → 1 ≤ line → 1 ≤ col →
    FlwL ts ∧ ∀ l0 c0 : Nat, 1 ≤ c0 → (l0 < line ∨ l0 = line ∧ c0 ≤ col) →
      OrdL ts (l0 : Int) (c0 : Int) ∧ (layL ts (l0 : Int) (c0 : Int)).length ≤ (line - l0) + (if l0 < line then col - 1 else col - c0) + s.length ∧ scan (layL ts (l0 : Int) (c0 : Int)) l0 c0 cnt = (ts, none) := by
  intro n
  induction n with
  | zero =>
    intro s line col cnt ts hs _ h h1 h2
    obtain rfl : s = [] := List.eq_nil_of_length_eq_zero (by omega)
    rw [scan_nil] at h
    injection h with h _
    subst h
    exact ⟨trivial, fun l0 c0 _ _ => ⟨trivial, by simp [layL], by rw [layL, scan_nil]⟩⟩
  | succ n ih =>
    intro s line col cnt ts hs hs6 h hl1 hc1
    cases s with
    | nil =>
      rw [scan_nil] at h
      injection h with h _
      subst h
      exact ⟨trivial, fun l0 c0 _ _ => ⟨trivial, by simp [layL], by rw [layL, scan_nil]⟩⟩
    | cons x r =>
      simp only [List.length_cons] at hs hs6
      by_cases h1 : x.toNat = 10
      · rw [scan_nl _ _ _ _ _ h1] at h
        obtain ⟨f, g⟩ := ih r _ _ _ ts (by omega) (by omega) h (by omega) (by omega)
        refine ⟨f, fun l0 c0 hc0 hp => ?_⟩
        obtain ⟨g1, g2, g3⟩ := g l0 c0 hc0 (.inl (by omega))
        refine ⟨g1, Nat.le_trans g2 ?_, g3⟩
        rw [if_pos (by omega)]
        simp only [List.length_cons]
        split <;> omega
      · by_cases h2 : x.toNat = 32 ∨ x.toNat = 9 ∨ x.toNat = 13
        · rw [scan_bl _ _ _ _ _ h2] at h
          obtain ⟨f, g⟩ := ih r _ _ _ ts (by omega) (by omega) h (by omega) (by omega)
          refine ⟨f, fun l0 c0 hc0 hp => ?_⟩
          obtain ⟨g1, g2, g3⟩ := g l0 c0 hc0 (by omega)
          refine ⟨g1, Nat.le_trans g2 ?_, g3⟩
          simp only [List.length_cons]
          split <;> omega
        · by_cases h3 : x.toNat = 35
          · rw [scan_cm _ _ _ _ _ h3] at h
            have htl : (r.takeWhile pC).length ≤ r.length := by
              have := congrArg List.length (twp_split pC r)
              rw [List.length_append] at this
              omega
            obtain ⟨f, g⟩ := ih _ _ _ _ ts (by rw [List.length_drop]; omega) (by rw [List.length_drop]; omega) h (by omega) (by omega)
            refine ⟨f, fun l0 c0 hc0 hp => ?_⟩
            obtain ⟨g1, g2, g3⟩ := g l0 c0 hc0 (by omega)
            refine ⟨g1, Nat.le_trans g2 ?_, g3⟩
            rw [List.length_drop]
            simp only [List.length_cons]
            split <;> omega
          · have hst : startT x := ⟨h1, fun e => h2 (.inl e), fun e => h2 (.inr (.inl e)), fun e => h2 (.inr (.inr e)), h3⟩
            cases hr : rd (x :: r) with
            | err e => rw [scan_er _ _ _ _ _ _ hst hr] at h; cases h
            | ok k u v =>
              by_cases hcn : cnt = 16384
              · subst hcn
                rw [scan_full _ _ _ _ _ _ _ hst hr] at h
                cases h
              · rw [scan_ok _ _ _ _ _ _ _ _ hst hr hcn] at h
                rw [Prod.mk.injEq] at h
                obtain ⟨e1, e2⟩ := h
                subst e1
                obtain ⟨⟨y, hy⟩, hlen⟩ := rd_front _ _ _ _ _ hr
                have hdr : r.drop (u.length - 1) = y := by
                  rw [rd_drop _ _ _ _ _ hr, hy, List.drop_left]
                rw [hdr] at e2 ⊢
                have hune : u ≠ [] := fun e => by rw [e] at hlen; simp at hlen
                have hylen : u.length + y.length = r.length + 1 := by
                  have := congrArg List.length hy
                  simp only [List.length_cons, List.length_append] at this
                  omega
                obtain ⟨ts', hts⟩ : ∃ ts', (scan y line (col + u.length) (cnt + 1)).1 = ts' := ⟨_, rfl⟩
                have hsc : scan y line (col + u.length) (cnt + 1) = (ts', none) := by rw [← hts, ← e2]
                rw [hts]
                obtain ⟨f, g⟩ := ih y _ _ _ ts' (by omega) (by omega) hsc hl1 (by omega)
                obtain ⟨g1, g2, g3⟩ := g line (col + u.length) (by omega) (.inr ⟨rfl, Nat.le_refl _⟩)
                rw [hy] at hr
                have hru : rd u = .ok k u v := by
                  cases y with
                  | nil => rw [List.append_nil] at hr; exact hr
                  | cons c z => exact (rd_one' u hune c z k v hr).2
                have hal : alB (⟨k, u, v, line, col⟩ : Tk) = true := (alB_spec _).2 ⟨by show u.length ≤ 65536; omega, k, v, hru, hune, rfl, rfl⟩
                have h11 : (1 : Int) ≤ ((line : Nat) : Int) := by omega
                have h12 : (1 : Int) ≤ ((col : Nat) : Int) := by omega
                -- what stands behind the token reads alike
                have hrest : ∀ t us, ts' = t :: us → t.line = (line : Int) → t.col = ((col + u.length : Nat) : Int) → ∃ c z, t.text = c :: z ∧ rd (u ++ [c]) = .ok k u v := fun t us he hl hc => by
                  obtain ⟨c, z, w, e3, e4⟩ := scan_here y line (col + u.length) (cnt + 1) t us (by rw [hts, he]) hl hc
                  rw [e3] at hr
                  exact ⟨c, w, e4, (rd_one' u hune c z k v hr).1⟩
                have haf : ∀ t us, ts' = t :: us → (line : Int) < t.line ∨ (line : Int) = t.line ∧ ((col + u.length : Nat) : Int) ≤ t.col := fun t us he => scan_after _ y line (col + u.length) (cnt + 1) (Nat.le_refl _) t (by rw [hts, he]; simp)
                have hsh : ∀ t us, ts' = t :: us → t.text.length ≤ y.length := fun t us he => scan_short _ y line (col + u.length) (cnt + 1) (Nat.le_refl _) t (by rw [hts, he]; simp)
                refine ⟨?_, fun l0 c0 hc0 hp => ?_⟩
                · cases ts' with
                  | nil => exact ⟨h11, h12, hal⟩
                  | cons t us =>
                    refine ⟨⟨h11, h12, hal⟩, ?_, f⟩
                    have ha := haf t us rfl
                    have hs9 := hsh t us rfl
                    unfold flwB
                    show (if ((line : Nat) : Int) = t.line then (decide (t.col - (u.length : Int) > (col : Int)) || (decide (t.col - (u.length : Int) = (col : Int)) && tchB ⟨k, u, v, line, col⟩ t)) else decide ((line : Int) < t.line)) = true
                    split
                    · rename_i hll
                      by_cases hcc : t.col - (u.length : Int) > (col : Int)
                      · rw [decide_eq_true hcc]; rfl
                      · have hce : t.col - (u.length : Int) = (col : Int) := by omega
                        obtain ⟨c, z, e3, e4⟩ := hrest t us rfl hll.symm (by omega)
                        rw [decide_eq_true hce, Bool.true_and]
                        have : tchB ⟨k, u, v, line, col⟩ t = true := by
                          unfold tchB
                          show (decide (u.length + t.text.length ≤ 65536) && rdIs (rd (u ++ t.text.take 1)) u) = true
                          rw [e3, show (c :: z).take 1 = [c] from rfl, e4, ← e3, decide_eq_true (by omega)]
                          simp [rdIs]
                        rw [this, Bool.or_true]
                    · exact decide_eq_true (by omega)
                · have hY : rd (u ++ layL ts' (line : Int) ((col + u.length : Nat) : Int)) = .ok k u v := by
                    cases ts' with
                    | nil => rw [layL, List.append_nil]; exact hru
                    | cons t us =>
                      have ha := haf t us rfl
                      rw [layL]
                      obtain ⟨A, hA⟩ : ∃ A, (t.line - (line : Int)).toNat = A := ⟨_, rfl⟩
                      obtain ⟨B, hB⟩ : ∃ B, (t.col - (if 0 < t.line - (line : Int) then 1 else ((col + u.length : Nat) : Int))).toNat = B := ⟨_, rfl⟩
                      rw [hA, hB]
                      cases A with
                      | succ A => exact rd_rest u hune k v hru _ (.inr ⟨10, _, rfl, by decide⟩)
                      | zero =>
                        cases B with
                        | succ B => exact rd_rest u hune k v hru _ (.inr ⟨32, _, rfl, by decide⟩)
                        | zero =>
                          have hle : ¬ 0 < t.line - (line : Int) := by omega
                          rw [if_neg hle] at hB
                          obtain ⟨c, z, e3, e4⟩ := hrest t us rfl (by omega) (by omega)
                          rw [e3]
                          exact rd_one u hune c _ k v e4
                  have hg : (if 0 < (line : Int) - (l0 : Int) then (1 : Int) else (c0 : Int)) = ((if l0 < line then 1 else c0 : Nat) : Int) := by
                    by_cases hll : l0 < line
                    · rw [if_pos hll, if_pos (by omega)]; rfl
                    · rw [if_neg hll, if_neg (by omega)]
                  have ec : ((col : Nat) : Int) + (u.length : Int) = ((col + u.length : Nat) : Int) := by omega
                  refine ⟨⟨by show 0 ≤ (line : Int) - (l0 : Int); omega, ?_, ?_⟩, ?_, ?_⟩
                  · show 0 ≤ (col : Int) - (if 0 < (line : Int) - (l0 : Int) then 1 else (c0 : Int))
                    rw [hg]
                    split <;> omega
                  · show OrdL ts' (line : Int) ((col : Int) + (u.length : Int))
                    rw [ec]
                    exact g1
                  · show (List.replicate ((line : Int) - (l0 : Int)).toNat 10 ++ (List.replicate ((col : Int) - (if 0 < (line : Int) - (l0 : Int) then 1 else (c0 : Int))).toNat 32 ++ (u ++ layL ts' (line : Int) ((col : Int) + (u.length : Int))))).length ≤ _
                    rw [ec, hg]
                    rw [List.length_append, List.length_append, List.length_append, List.length_replicate, List.length_replicate]
                    rw [if_neg (by omega)] at g2
                    simp only [List.length_cons]
                    split <;> omega
                  · show scan (List.replicate ((line : Int) - (l0 : Int)).toNat 10 ++ (List.replicate ((col : Int) - (if 0 < (line : Int) - (l0 : Int) then 1 else (c0 : Int))).toNat 32 ++ (u ++ layL ts' (line : Int) ((col : Int) + (u.length : Int))))) l0 c0 cnt = _
                    rw [ec, hg, scan_blanks]
                    have el : l0 + ((line : Int) - (l0 : Int)).toNat = line := by omega
                    have ea : (0 < ((line : Int) - (l0 : Int)).toNat) = (l0 < line) := by apply propext; omega
                    have eb : (if 0 < ((line : Int) - (l0 : Int)).toNat then 1 else c0) + ((col : Int) - ((if l0 < line then 1 else c0 : Nat) : Int)).toNat = col := by
                      by_cases hll : l0 < line
                      · rw [if_pos hll, if_pos (by omega)]; omega
                      · rw [if_neg hll, if_neg (by omega)]; omega
                    rw [el, eb]
                    obtain ⟨d, u', rfl⟩ : ∃ d u', u = d :: u' := by
                      cases u with
                      | nil => exact absurd rfl hune
                      | cons d u' => exact ⟨d, u', rfl⟩
                    have hsd := rd_startT _ _ _ _ _ hru
                    rw [List.cons_append] at hY
                    rw [List.cons_append, scan_ok _ _ _ _ _ _ _ _ hsd hY hcn]
                    have hdd : ∀ Z : Bs, (u' ++ Z).drop ((d :: u').length - 1) = Z := fun Z => by simp
                    rw [hdd, g3]
theorem lay_layL (X : Nat → Tk) : ∀ (ts : List Tk) (i : Nat) (txt : Bs) (line col : Int), (∀ j t, ts[j]? = some t → X (i + j) = t) → OrdL ts line col → txt.length + (layL ts line col).length ≤ 65536 → lay X ts.length i txt line col = (txt ++ layL ts line col, 0)
  | [], i, txt, line, col, _, _, _ => by rw [layL, List.append_nil]; rfl
  | t :: ts, i, txt, line, col, hX, ho, hl => by
    have h0 : X i = t := hX 0 t rfl
    obtain ⟨o1, o2, o3⟩ := ho
    rw [layL] at hl ⊢
    rw [List.length_append, List.length_append, List.length_append, List.length_replicate, List.length_replicate] at hl
    show (if (X i).col - (if 0 < (X i).line - line then 1 else col) > 65536 - (txt.length : Int) - ((X i).line - line) ∨ ((X i).text.length : Int) > 65536 - (txt.length : Int) - ((X i).line - line) - ((X i).col - (if 0 < (X i).line - line then 1 else col)) then ([], 30)
      else lay X ts.length (i + 1) (txt ++ List.replicate ((X i).line - line).toNat 10 ++ List.replicate ((X i).col - (if 0 < (X i).line - line then 1 else col)).toNat 32 ++ (X i).text) (if 0 < (X i).line - line then (X i).line else line) ((X i).col + ((X i).text.length : Int))) = _
    rw [h0]
    generalize hG : t.col - (if 0 < t.line - line then 1 else col) = G at *
    rw [if_neg (by omega)]
    have hl2 : (if 0 < t.line - line then t.line else line) = t.line := by split <;> omega
    rw [hl2]
    have ih := lay_layL X ts (i + 1) (txt ++ List.replicate (t.line - line).toNat 10 ++ List.replicate G.toNat 32 ++ t.text) t.line (t.col + (t.text.length : Int)) (fun j u hj => by rw [show i + 1 + j = i + (j + 1) by omega]; exact hX (j + 1) u hj) o3 (by
      rw [List.length_append, List.length_append, List.length_append, List.length_replicate, List.length_replicate]
      omega)
    rw [ih]
    simp only [List.append_assoc]
theorem flw_at : ∀ (ts : List Tk), FlwL ts → ∀ i t, ts[i]? = some t → (1 ≤ t.line ∧ 1 ≤ t.col ∧ alB t = true) ∧ ∀ u, ts[i + 1]? = some u → flwB t u = true
  | [], _, i, t, h => by simp at h
  | [a], hf, i, t, h => by
    cases i with
    | zero =>
      simp at h
      subst h
      exact ⟨hf, fun u hu => by simp at hu⟩
    | succ i => simp at h
  | a :: b :: ts, hf, i, t, h => by
    cases i with
    | zero =>
      simp at h
      subst h
      exact ⟨hf.1, fun u hu => by simp at hu; subst hu; exact hf.2.1⟩
    | succ i => exact flw_at (b :: ts) hf.2.2 i t (by simpa using h)
/-- what is spelled of a text that is taken -/
theorem spell_back (src : Bs) (ts : List Tk) (h : scanT src = (ts, none)) : ∃ s : Bs, spell (fun i => ts.getD i nT) ts.length = (s, 0) ∧ s.length ≤ src.length ∧ scanT s = (ts, none) := by
  have hlen : src.length ≤ 65536 := by
    by_cases h1 : src.length > 65536
    · unfold scanT at h
      rw [if_pos h1] at h
      cases h
    · omega
  have hn : ts.length ≤ 16384 := by
    have := scanT_count src
    rw [h] at this
    exact this
  have hs : scan src 1 1 0 = (ts, none) := by
    unfold scanT at h
    rw [if_neg (by omega)] at h
    exact h
  obtain ⟨f, g⟩ := back src.length src 1 1 0 ts (Nat.le_refl _) hlen hs (Nat.le_refl _) (Nat.le_refl _)
  obtain ⟨g1, g2, g3⟩ := g 1 1 (Nat.le_refl _) (.inr ⟨rfl, Nat.le_refl _⟩)
  have g2' : (layL ts 1 1).length ≤ src.length := by simpa using g2
  have hX : ∀ j t, ts[j]? = some t → (fun i => ts.getD i nT) (0 + j) = t := fun j t hj => by
    show ts.getD (0 + j) nT = t
    rw [Nat.zero_add, List.getD_eq_getElem?_getD, hj]
    rfl
  have hX' : ∀ j t, ts[j]? = some t → ts.getD j nT = t := fun j t hj => by
    rw [List.getD_eq_getElem?_getD, hj]
    rfl
  have hlay := lay_layL (fun i => ts.getD i nT) ts 0 [] 1 1 hX g1 (by simp; omega)
  have hwf : wfB (fun i => ts.getD i nT) ts.length = true := wf_yes fun i hi => by
    have hj := List.getElem?_eq_getElem hi
    obtain ⟨⟨a1, a2, a3⟩, a4⟩ := flw_at ts f i _ hj
    have hi9 := hX' i _ hj
    unfold okT
    show (decide (1 ≤ (ts.getD i nT).line) && (decide (1 ≤ (ts.getD i nT).col) && (alB (ts.getD i nT) && (decide (i = 0) || flwB (ts.getD (i - 1) nT) (ts.getD i nT))))) = true
    rw [hi9, decide_eq_true a1, decide_eq_true a2, a3]
    cases i with
    | zero => rfl
    | succ i =>
      have hk := List.getElem?_eq_getElem (l := ts) (i := i) (by omega)
      have hk9 := hX' i _ hk
      rw [show i + 1 - 1 = i from rfl, hk9, (flw_at ts f i _ hk).2 _ hj]
      simp
  refine ⟨layL ts 1 1, ?_, g2', ?_⟩
  · unfold spell
    rw [if_neg (by omega), if_pos hwf, hlay]
    rfl
  · unfold scanT
    rw [if_neg (by omega)]
    exact g3
end Go.Proofs.YtmekcccmnkgodaaGreatDoor
namespace Go.Proofs.YtmekcccmnkgodaaGreatDoor
open Go.ChangeShapes Go.WideShapes Go.ChangeAt Go.RowKit
set_option linter.unusedVariables false
set_option linter.unusedSimpArgs false
theorem tx_sh {W : World} {p : Option Addr} {n : Nat} {X : Nat → Tk} (h : TX W p n X) : ∃ F : Nat → Value, TkIn W p n F ∧ TkSh n F ∧ ∀ i r, i < n → r < 5 → F (i * 5 + r) = (tkCells (X i)).getD r undef := by
  have e : ∀ i r, r < 5 → (fun j => (tkCells (X (j / 5))).getD (j % 5) undef) (i * 5 + r) = (tkCells (X i)).getD r undef := fun i r hr => by
    show (tkCells (X ((i * 5 + r) / 5))).getD ((i * 5 + r) % 5) undef = _
    rw [show (i * 5 + r) / 5 = i by omega, show (i * 5 + r) % 5 = r by omega]
  refine ⟨fun j => (tkCells (X (j / 5))).getD (j % 5) undef, ?_, fun i hi => ?_, fun i r _ hr => e i r hr⟩
  · rcases h with h | ⟨b, o, hp, hb, hc⟩
    · exact .inl h
    · refine .inr ⟨b, o, hp, hb, fun j hj => ?_⟩
      have h9 := hc (j / 5) (j % 5) (by omega) (Nat.mod_lt _ (by omega))
      rw [show o + j / 5 * 5 + j % 5 = o + j by omega] at h9
      exact h9
  · exact ⟨_, _, _, _, _, e i 0 (by omega), e i 1 (by omega), e i 2 (by omega), e i 3 (by omega), e i 4 (by omega)⟩
theorem own_tx {W : World} {base g n c m : Nat} {F : Nat → Value} {X : Nat → Tk} (h : Own W base 40 5 (.slice (some ⟨g, 0, none⟩) m c) m F) (hnm : n ≤ m) (hF : ∀ i r, i < n → r < 5 → F (i * 5 + r) = (tkCells (X i)).getD r undef) : TX W (some ⟨g, 0, none⟩) n X := by
  refine .inr ⟨g, 0, rfl, (h.kind rfl).2.1, fun i r hi hr => ?_⟩
  rw [Nat.zero_add, ← hF i r hi hr]
  exact h.cell (by omega)
end Go.Proofs.YtmekcccmnkgodaaGreatDoor
