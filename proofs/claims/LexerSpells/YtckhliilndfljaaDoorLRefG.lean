import Derived.Test.YtckhliilndfljaaDoorLRefV
namespace Go.Proofs.YtckhliilndfljaaDoor
open Go.ChangeShapes Go.WideShapes Go.ChangeAt Go.RowKit
set_option linter.unusedVariables false

/-- how many bytes at the front are one blank or one comment -/
def gapL : Bs → Nat
  | [] => 0
  | c :: r => if c.toNat = 32 ∨ c.toNat = 9 ∨ c.toNat = 13 ∨ c.toNat = 10 then 1 else if c.toNat = 35 then 1 + (r.takeWhile pC).length else 0
theorem gapL_cm (c : UInt8) (r : Bs) (h : c.toNat = 35) : gapL (c :: r) = ((c :: r).takeWhile fun c => inC c.toNat).length := by
  show (if c.toNat = 32 ∨ c.toNat = 9 ∨ c.toNat = 13 ∨ c.toNat = 10 then 1 else if c.toNat = 35 then 1 + (r.takeWhile pC).length else 0) = _
  rw [if_neg (by omega), if_pos h, List.takeWhile_cons, if_pos (by simp [inC]; omega)]
  simp only [List.length_cons]
  exact Nat.add_comm _ _

set_option maxRecDepth 100000 in
theorem rgap_any (s : Bs) (hl : s.length ≤ maxLen) (w : World) :
    Calls Tryd.prog 37 #[.string ⟨s.toArray⟩] w fun e w' => e = .returned (.int .i64 (gapL s)) ∧ w' = w := by
  have hsz : (⟨s.toArray⟩ : ByteArray).size = s.length := by simp [ByteArray.size]
  by_cases hnil : s = []
  · subst hnil
    go_enter Tryd.func37, Tryd.ntmps37
    go_wp2
    go_ret
    exact ⟨rfl, rfl⟩
  · obtain ⟨c, r, hs⟩ : ∃ c r, s = c :: r := by cases s with | nil => exact absurd rfl hnil | cons c r => exact ⟨c, r, rfl⟩
    have hE : s.isEmpty = false := by rw [hs]; rfl
    have hlen : 0 < s.length := by rw [hs]; simp
    have hlt0 : 0 < (⟨s.toArray⟩ : ByteArray).size := by omega
    have h0 : ((⟨s.toArray⟩ : ByteArray)[0]'hlt0) = c := by subst hs; rfl
    have hg : gapL s = if c.toNat = 32 ∨ c.toNat = 9 ∨ c.toNat = 13 ∨ c.toNat = 10 then 1 else if c.toNat = 35 then 1 + (r.takeWhile pC).length else 0 := by rw [hs]; rfl
    have hgc := gapL_cm c r
    rw [← hs] at hgc
    clear hs
    by_cases hb : c.toNat = 32 ∨ c.toNat = 9 ∨ c.toNat = 13 ∨ c.toNat = 10
    · rw [hg, if_pos hb]
      clear hg hgc
      rcases hb with hb | hb | hb | hb
      all_goals (
        have e0 : (c.toNat : Int) = _ := congrArg Int.ofNat hb
        go_enter Tryd.func37, Tryd.ntmps37
        go_wp2
        go_ret
        exact ⟨rfl, rfl⟩)
    · have e1 : ((c.toNat : Int) == 32) = false := by simp; omega
      have e2 : ((c.toNat : Int) == 9) = false := by simp; omega
      have e3 : ((c.toNat : Int) == 13) = false := by simp; omega
      have e4 : ((c.toNat : Int) == 10) = false := by simp; omega
      by_cases h35 : c.toNat = 35
      · have e5 : ((c.toNat : Int) == 35) = true := by simp; omega
        rw [hgc h35]
        clear hg hgc hb
        go_enter Tryd.func37, Tryd.ntmps37
        go_wp2
        go_loop [3] (fun v => ∃ n : Nat, v = .int .i64 n ∧ n ≤ s.length ∧ Hid ((s.takeWhile fun c => inC c.toNat).length = tw inC s n + n)) (fun v => s.length - (intOf v).toNat)
        case atStart => exact ⟨0, rfl, by omega, rfl⟩
        case round =>
          obtain ⟨n, rfl, hn, hinv⟩ := hrel
          by_cases hlt : n < s.length
          · have hltb : n < (⟨s.toArray⟩ : ByteArray).size := by omega
            obtain ⟨d, hd⟩ : ∃ d, s[n] = d := ⟨_, rfl⟩
            have hgt : ((⟨s.toArray⟩ : ByteArray)[n]'hltb) = d := by rw [← hd]; rfl
            have d0 : decide ((n : Int) < s.length) = true := decide_eq_true (by omega)
            have hwn : wrap64 ((n : Int) + 1) = n + 1 := wrap_succ hl hlt
            have hpy := tw_yes inC s n hlt
            have hpz := tw_no inC s n hlt
            rw [hd] at hpy hpz
            by_cases h10 : d.toNat = 10
            · have e6 : ((d.toNat : Int) == 10) = true := by simp; omega
              have HE : Hid ((s.takeWhile fun c => inC c.toNat).length = n) := by show _ = n; rw [hinv.out, hpz (by simp [inC, h10])]; omega
              clear hpy hpz hinv h0 hd
              go_wp2
              go_ret
              exact ⟨by rw [HE.out]; rfl, rfl⟩
            · have e6 : ((d.toNat : Int) == 10) = false := by simp; omega
              have HE : Hid ((s.takeWhile fun c => inC c.toNat).length = tw inC s (n + 1) + (n + 1)) := by show _ = _; rw [hinv.out, hpy (by simp [inC, h10])]; omega
              clear hpy hpz hinv h0 hd
              go_wp2
              exact ⟨⟨n + 1, by rw [hwn]; rfl, hlt, HE⟩, by rw [hwn]; exact meas hlt⟩
          · have HE : Hid ((s.takeWhile fun c => inC c.toNat).length = n) := by show _ = n; rw [hinv.out, tw_end inC s n hlt]; omega
            have d0 : decide ((n : Int) < s.length) = false := decide_eq_false (by omega)
            clear hinv
            go_wp2
            go_ret
            exact ⟨by rw [HE.out]; rfl, rfl⟩
      · have e5 : ((c.toNat : Int) == 35) = false := by simp; omega
        rw [hg, if_neg hb, if_neg h35]
        clear hg hgc hb
        go_enter Tryd.func37, Tryd.ntmps37
        go_wp2
        go_ret
        exact ⟨rfl, rfl⟩
end Go.Proofs.YtckhliilndfljaaDoor
