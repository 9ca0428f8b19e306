import Derived.Test.YtckhliilndfljaaDoorLRefK
import Derived.OwnWalk
namespace Go.Proofs.YtckhliilndfljaaDoor
open Go.ChangeShapes Go.WideShapes Go.ChangeAt Go.RowKit
set_option linter.unusedVariables false

/-- the reference's answer -/
def erV : Option Er → Value × Value × Value
  | none => (.int .i64 0, .int .i64 0, .int .i64 0)
  | some e => (.int .i64 e.code, .int .i64 e.line, .int .i64 e.col)
def RPost (R : List Tk × Option Er) (w : World) (e : Ending) (W : World) : Prop :=
  Below w.heap.size w W ∧ ∃ v, e = .returned (.tuple #[v, (erV R.2).1, (erV R.2).2.1, (erV R.2).2.2]) ∧ W.ownsRow w.heap.size 34 5 v R.1.length (tksCells R.1)

theorem gap_nl (c : UInt8) (r : Bs) (h : c.toNat = 10) : gapL (c :: r) = 1 := by show (if _ then _ else _) = _; rw [if_pos (by omega)]
theorem gap_bl (c : UInt8) (r : Bs) (h : c.toNat = 32 ∨ c.toNat = 9 ∨ c.toNat = 13) : gapL (c :: r) = 1 := by show (if _ then _ else _) = _; rw [if_pos (by omega)]
theorem gap_cm (c : UInt8) (r : Bs) (h : c.toNat = 35) : gapL (c :: r) = 1 + (r.takeWhile pC).length := by show (if _ then _ else if _ then _ else _) = _; rw [if_neg (by omega), if_pos h]
theorem gap_no (c : UInt8) (r : Bs) (h : startT c) : gapL (c :: r) = 0 := by
  obtain ⟨h1, h2, h3, h4, h5⟩ := h
  show (if _ then _ else if _ then _ else _) = _
  rw [if_neg (by omega), if_neg h5]

theorem own_more {W W' : World} {base : Nat} {e : TypeId} {size : Nat} {v : Value} {k : Nat} {xs : List Value} (h : W.ownsRow base e size v k xs) (hb : Below W.heap.size W W') : W'.ownsRow base e size v k xs :=
  by
    rcases h.2 with ⟨rfl, _⟩ | ⟨g, cap, cur, rfl, _⟩
    · exact h.kept (grown_of_below hb) (.inl rfl)
    · exact h.kept (grown_of_below hb) (.inr (by simp [Value.ownBlock]))
theorem own_len {W : World} {base : Nat} {e : TypeId} {size : Nat} {p : Option Addr} {m c : Nat} {k : Nat} {xs : List Value} (h : W.ownsRow base e size (.slice p m c) k xs) : m = k := by
  rcases h.2 with ⟨h1, h2⟩ | ⟨g, cap, cur, h1, _⟩
  · injection h1 with _ h1 _; omega
  · injection h1
theorem cells_end {R : List Tk × Option Er} {ct : Nat} {o : Option Er} (h : (R.1.drop ct, R.2) = (([] : List Tk), o)) (hct : ct ≤ R.1.length) : ct = R.1.length ∧ R.2 = o ∧ tksCells (R.1.take ct) = tksCells R.1 := by
  have h1 := congrArg Prod.fst h
  have h2 := congrArg Prod.snd h
  have h3 := List.drop_eq_nil_iff.1 h1
  have h4 : ct = R.1.length := by omega
  exact ⟨h4, h2, by rw [h4, List.take_length]⟩

set_option maxRecDepth 100000 in
set_option maxHeartbeats 8000000 in
theorem rscan_any (src : Bs) (hmx : src.length ≤ maxLen) (w : World) :
    Calls Tryd.prog 26 #[.string ⟨src.toArray⟩] w (RPost (scanT src) w) := by
  obtain ⟨i0, hi, hz0, hz1, hz2⟩ := info_parts infoTk
  have hsz : (⟨src.toArray⟩ : ByteArray).size = src.length := by simp [ByteArray.size]
  by_cases hl : src.length ≤ 65536
  · rw [scanT_fits src hl]
    have hcnt := scan_count src 1 1 0 (by omega)
    obtain ⟨R, hR⟩ : ∃ R, scan src 1 1 0 = R := ⟨_, rfl⟩
    have HR : Hid (scan src 1 1 0 = R) := hR
    rw [hR] at hcnt ⊢
    clear hR
    have d0 : decide ((src.length : Int) > 65536) = false := decide_eq_false (by omega)
    have d1 : decide ((65536 : Int) < src.length) = false := decide_eq_false (by omega)
    have hext := ext_drop src
    go_enter Tryd.func26, Tryd.ntmps26
    go_wp2
    go_loopw [6, 7, 8, 9] (fun v6 v7 v8 v9 wr => ∃ (p ln cl ct : Nat), v7 = .int .i64 ln ∧ v8 = .int .i64 cl ∧ v9 = .int .i64 p ∧ p ≤ src.length ∧ ln ≤ p + 1 ∧ cl ≤ p + 1 ∧ ct ≤ R.1.length ∧ wr.ownsRow w.heap.size 34 5 v6 ct (tksCells (R.1.take ct)) ∧ Below w.heap.size w wr ∧ Hid (scan (src.drop p) ln cl ct = (R.1.drop ct, R.2))) (fun _ _ _ v9 _ => src.length - (intOf v9).toNat)
    case atStart => exact ⟨0, 1, 1, 0, rfl, rfl, rfl, by omega, by omega, by omega, by omega, World.ownsRow_nil _ _ _ _, Below.refl _ _, by show _ = _; simpa using HR.out⟩
    case round =>
      obtain ⟨p, ln, cl, ct, rfl, rfl, rfl, hp, hln, hcl, hct, hown, hbel, hinv⟩ := hrel
      obtain ⟨vp, vm, vc, rfl⟩ := own_slice hown
      have hvm := own_len hown
      subst vm
      by_cases hlt : p < src.length
      · have hdc := drop_cons src p hlt
        obtain ⟨c, hc⟩ : ∃ c, src[p] = c := ⟨_, rfl⟩
        have hltb : p < (⟨src.toArray⟩ : ByteArray).size := by omega
        have hgp : ((⟨src.toArray⟩ : ByteArray)[p]'hltb) = c := by rw [← hc]; rfl
        rw [hc] at hdc
        have dl : decide ((p : Int) < src.length) = true := decide_eq_true (by omega)
        have hxp := hext p
        have hrl : (src.drop p).length ≤ maxLen := by rw [List.length_drop]; exact Nat.le_trans (Nat.sub_le _ _) hmx
        have HG : ∀ w', Hid (Calls Tryd.prog 37 #[.string ⟨(src.drop p).toArray⟩] w' fun e w'' => e = .returned (.int .i64 (gapL (src.drop p))) ∧ w'' = w') := fun w' => rgap_any _ hrl w'
        have hinv3 := hinv.out
        rw [hdc] at hinv3
        clear hext hc hinv hrl
        by_cases hcc : c.toNat = 10
        · have hg1 := gap_nl c (src.drop (p + 1)) hcc
          rw [← hdc] at hg1
          rw [hg1] at HG
          rw [scan_nl c _ ln cl ct hcc] at hinv3
          have HS : Hid (scan (src.drop (p + 1)) (ln + 1) 1 ct = (R.1.drop ct, R.2)) := hinv3
          have e1 : ((c.toNat : Int) == 10) = true := by simp; omega
          have r1 : p + 1 ≤ src.length := hlt
          have r2 : ln + 1 ≤ p + 1 + 1 := by omega
          have r3 : 1 ≤ p + 1 + 1 := by omega
          clear hg1 hinv3 hdc hcc
          go_wp2_with (go_at_call 37; (with_reducible refine ((HG _).out).mono ?_); rintro e w' ⟨rfl, hw⟩; subst w')
          exact ⟨⟨p + 1, ln + 1, 1, ct, rfl, rfl, rfl, r1, r2, r3, hct, hown, hbel, HS⟩, meas hlt⟩
        have e1 : ((c.toNat : Int) == 10) = false := by simp; omega
        by_cases hbl : c.toNat = 32 ∨ c.toNat = 9 ∨ c.toNat = 13
        · have hg1 := gap_bl c (src.drop (p + 1)) hbl
          rw [← hdc] at hg1
          rw [hg1] at HG
          rw [scan_bl c _ ln cl ct hbl] at hinv3
          have HS : Hid (scan (src.drop (p + 1)) ln (cl + 1) ct = (R.1.drop ct, R.2)) := hinv3
          have r1 : p + 1 ≤ src.length := hlt
          have r2 : ln ≤ p + 1 + 1 := by omega
          have r3 : cl + 1 ≤ p + 1 + 1 := by omega
          clear hg1 hinv3 hdc hcc hbl
          go_wp2_with (go_at_call 37; (with_reducible refine ((HG _).out).mono ?_); rintro e w' ⟨rfl, hw⟩; subst w')
          exact ⟨⟨p + 1, ln, cl + 1, ct, rfl, rfl, rfl, r1, r2, r3, hct, hown, hbel, HS⟩, meas hlt⟩
        by_cases h35 : c.toNat = 35
        · have hg1 := gap_cm c (src.drop (p + 1)) h35
          rw [← hdc] at hg1
          rw [hg1] at HG
          rw [scan_cm c _ ln cl ct h35, List.drop_drop] at hinv3
          have hle : ((src.drop (p + 1)).takeWhile pC).length ≤ src.length - (p + 1) := by
            have := (List.takeWhile_sublist (l := src.drop (p + 1)) pC).length_le
            simpa using this
          generalize ((src.drop (p + 1)).takeWhile pC).length = m at *
          have HS : Hid (scan (src.drop (p + (1 + m))) ln (cl + (1 + m)) ct = (R.1.drop ct, R.2)) := by
            show _ = _
            rw [← hinv3]
            congr 1
            · congr 1; omega
            · omega
          have r1 : p + (1 + m) ≤ src.length := by omega
          have r2 : ln ≤ p + (1 + m) + 1 := by omega
          have r3 : cl + (1 + m) ≤ p + (1 + m) + 1 := by omega
          have r4 : src.length - (p + (1 + m)) < src.length - p := by omega
          have dm : decide ((1 : Int) + m > 0) = true := decide_eq_true (by omega)
          have dm2 : decide ((0 : Int) < 1 + m) = true := decide_eq_true (by omega)
          clear hg1 hinv3 hdc hcc hbl h35 hle
          go_wp2_with (go_at_call 37; (with_reducible refine ((HG _).out).mono ?_); rintro e w' ⟨rfl, hw⟩; subst w')
          exact ⟨⟨p + (1 + m), ln, cl + (1 + m), ct, rfl, rfl, rfl, r1, r2, r3, hct, hown, hbel, HS⟩, r4⟩
        have hst : startT c := ⟨hcc, by omega, by omega, by omega, h35⟩
        have hg1 := gap_no c (src.drop (p + 1)) hst
        rw [← hdc] at hg1
        rw [hg1] at HG
        have hrlen : (c :: src.drop (p + 1)).length ≤ 281474976710656 := by rw [← hdc, List.length_drop]; omega
        have HT0 : ∀ w', Calls Tryd.prog 38 #[.string ⟨(src.drop p).toArray⟩] w' fun e w'' => e = .returned (rdV (rd (c :: src.drop (p + 1)))) ∧ Below w'.heap.size w' w'' := fun w' => by
          have := rtoken_any c (src.drop (p + 1)) hrlen w'
          rw [← hdc] at this ⊢
          exact this
        clear hg1 hrlen
        cases hrd : rd (c :: src.drop (p + 1)) with
        | err e =>
          have hcode := rd_code _ _ hrd
          have hsc := (scan_er c (src.drop (p + 1)) ln cl ct e hst hrd)
          rw [hinv3] at hsc
          obtain ⟨q1, q2, q3⟩ := cells_end hsc hct
          rw [hrd] at HT0
          have HT : ∀ w', Hid (Calls Tryd.prog 38 #[.string ⟨(src.drop p).toArray⟩] w' fun e' w'' => e' = .returned (.tuple #[.agg #[.int .i64 0, .string ⟨#[]⟩, .int .u64 0, .int .i64 0, .int .i64 0], .int .i64 e]) ∧ Below w'.heap.size w' w'') := HT0
          have de : ((e : Int) == 0) = false := by simp; omega
          rw [q3] at hown
          replace hown := (congrArg (fun n => wr.ownsRow w.heap.size 34 5 (.slice vp ct vc) n (tksCells R.1)) q1).mp hown
          have HQ : Hid (R.2 = some ⟨e, ln, cl⟩) := q2
          clear hrd hst hinv3 hcode hsc q1 q2 q3 HT0 hdc hcnt hct
          go_wp2_with (first | (go_at_call 37; (with_reducible refine ((HG _).out).mono ?_); rintro e w' ⟨rfl, hw⟩; subst w') | (go_at_call 38; (with_reducible refine ((HT _).out).mono ?_); rintro e w1 ⟨rfl, hb1⟩))
          refine bodyPost_ret (by simp [results, Tryd.results26, go_sem]; try rfl) rfl ?_
          refine ⟨?_, _, by rw [HQ.out]; rfl, ?_⟩
          · exact (hbel.trans (hb1.mono hbel.size)).trans ((Below.refl _ w1).alloc (Nat.le_trans hbel.size hb1.size) _)
          · exact own_more hown (hb1.trans ((Below.refl _ w1).alloc hb1.size _))
        | ok k t v =>
          rw [hrd] at HT0
          have HT : ∀ w', Hid (Calls Tryd.prog 38 #[.string ⟨(src.drop p).toArray⟩] w' fun e' w'' => e' = .returned (.tuple #[.agg #[.int .i64 k, .string ⟨t.toArray⟩, .int .u64 v, .int .i64 0, .int .i64 0], .int .i64 0]) ∧ Below w'.heap.size w' w'') := HT0
          by_cases hfull : ct = 16384
          · have hsc := scan_full c (src.drop (p + 1)) ln cl k v t hst hrd
            subst hfull
            rw [hinv3] at hsc
            obtain ⟨q1, q2, q3⟩ := cells_end hsc hct
            rw [q3] at hown
            replace hown := (congrArg (fun n => wr.ownsRow w.heap.size 34 5 (.slice vp 16384 vc) n (tksCells R.1)) q1).mp hown
            have HQ : Hid (R.2 = some ⟨34, ln, cl⟩) := q2
            clear hrd hst hinv3 hsc q1 q2 q3 HT0 hdc hcnt hct
            go_wp2_with (first | (go_at_call 37; (with_reducible refine ((HG _).out).mono ?_); rintro e w' ⟨rfl, hw⟩; subst w') | (go_at_call 38; (with_reducible refine ((HT _).out).mono ?_); rintro e w1 ⟨rfl, hb1⟩))
            refine bodyPost_ret (by simp [results, Tryd.results26, go_sem]; try rfl) rfl ?_
            refine ⟨?_, _, by rw [HQ.out]; rfl, ?_⟩
            · exact (hbel.trans (hb1.mono hbel.size)).trans ((Below.refl _ w1).alloc (Nat.le_trans hbel.size hb1.size) _)
            · exact own_more hown (hb1.trans ((Below.refl _ w1).alloc hb1.size _))
          · have hsc := scan_ok c (src.drop (p + 1)) ln cl ct k v t hst hrd hfull
            have hfr := rd_front c (src.drop (p + 1)) k v t hrd
            have hle := rd_len c (src.drop (p + 1)) k v t hrd
            rw [rd_drop c (src.drop (p + 1)) k v t hrd, ← hdc, List.drop_drop] at hsc
            rw [← hdc, List.length_drop] at hle
            rw [← hdc] at hinv3
            rw [hinv3] at hsc
            obtain ⟨ht1, ht2, ht3, ht4⟩ := tot_tok hsc
            have hsn := tks_snoc R.1 ct _ ht1
            have hpos := hfr.2
            have dv : ((ct : Int) == 16384) = false := by simp; omega
            have r1 : p + t.length ≤ src.length := by omega
            have r2 : ln ≤ p + t.length + 1 := by omega
            have r3 : cl + t.length ≤ p + t.length + 1 := by omega
            have r4 : src.length - (p + t.length) < src.length - p := by omega
            have p1 : ct + 1 ≤ maxLen := by unfold maxLen; omega
            have p2 : (ct + 1) * 48 ≤ 140737488355328 := by omega
            have htz : (⟨t.toArray⟩ : ByteArray).size = t.length := by simp [ByteArray.size]
            have HS : Hid (scan (src.drop (p + t.length)) ln (cl + t.length) (ct + 1) = (R.1.drop (ct + 1), R.2)) := ht2
            have HSN : Hid (tksCells (R.1.take (ct + 1)) = tksCells (R.1.take ct) ++ [.int .i64 k, .string ⟨t.toArray⟩, .int .u64 v, .int .i64 ln, .int .i64 cl]) := hsn
            have hmore : ∀ w1, Below wr.heap.size wr w1 → Hid (((w1.alloc (.cells #[.int .i64 k, .string ⟨t.toArray⟩, .int .u64 v, .int .i64 ln, .int .i64 cl] 34)).alloc (.cells #[.int .i64 k, .string ⟨t.toArray⟩, .int .u64 v, .int .i64 ln, .int .i64 cl] 34)).ownsRow w.heap.size 34 5 (.slice vp ct vc) ct (tksCells (R.1.take ct)) ∧ w.heap.size ≤ ((w1.alloc (.cells #[.int .i64 k, .string ⟨t.toArray⟩, .int .u64 v, .int .i64 ln, .int .i64 cl] 34)).alloc (.cells #[.int .i64 k, .string ⟨t.toArray⟩, .int .u64 v, .int .i64 ln, .int .i64 cl] 34)).heap.size ∧ (∀ j u, [.int .i64 k, .string ⟨t.toArray⟩, .int .u64 v, .int .i64 ln, .int .i64 cl][j]? = some u → ((w1.alloc (.cells #[.int .i64 k, .string ⟨t.toArray⟩, .int .u64 v, .int .i64 ln, .int .i64 cl] 34)).alloc (.cells #[.int .i64 k, .string ⟨t.toArray⟩, .int .u64 v, .int .i64 ln, .int .i64 cl] 34)).cell? ((⟨w1.heap.size + 1, 0, none⟩ : Addr).add j) = some u) ∧
                ∀ w2, ((w1.alloc (.cells #[.int .i64 k, .string ⟨t.toArray⟩, .int .u64 v, .int .i64 ln, .int .i64 cl] 34)).alloc (.cells #[.int .i64 k, .string ⟨t.toArray⟩, .int .u64 v, .int .i64 ln, .int .i64 cl] 34)).grownBy w2 (Value.ownBlock (.slice vp ct vc)) → w2.cell? ⟨w1.heap.size, 1, none⟩ = some (.string ⟨t.toArray⟩) ∧ Below w.heap.size w w2) := by
              intro w1 hb1
              have hbb : Below wr.heap.size wr ((w1.alloc (.cells #[.int .i64 k, .string ⟨t.toArray⟩, .int .u64 v, .int .i64 ln, .int .i64 cl] 34)).alloc (.cells #[.int .i64 k, .string ⟨t.toArray⟩, .int .u64 v, .int .i64 ln, .int .i64 cl] 34)) := (hb1.trans ((Below.refl _ w1).alloc hb1.size _)).trans ((Below.refl _ _).alloc (by have := hb1.size; simp; omega) _)
              have hsz1 := hb1.size
              have hsz2 := hbel.size
              have hb3 : Below w.heap.size w ((w1.alloc (.cells #[.int .i64 k, .string ⟨t.toArray⟩, .int .u64 v, .int .i64 ln, .int .i64 cl] 34)).alloc (.cells #[.int .i64 k, .string ⟨t.toArray⟩, .int .u64 v, .int .i64 ln, .int .i64 cl] 34)) := hbel.trans (hbb.mono hsz2)
              refine ⟨own_more hown hbb, hb3.size, ?_, ?_⟩
              · have := cell_five_new (w1.alloc (.cells #[.int .i64 k, .string ⟨t.toArray⟩, .int .u64 v, .int .i64 ln, .int .i64 cl] 34)) (.int .i64 k) (.string ⟨t.toArray⟩) (.int .u64 v) (.int .i64 ln) (.int .i64 cl) 34
                rw [World.size_alloc] at this
                exact this
              · intro w2 hgrow
                constructor
                · have hq := hgrow.block w1.heap.size (by simp; omega) (fun e => by have := own_lt hown e.symm; omega)
                  rw [cell_of_heap hq]
                  have hq2 : ((w1.alloc (.cells #[.int .i64 k, .string ⟨t.toArray⟩, .int .u64 v, .int .i64 ln, .int .i64 cl] 34)).alloc (.cells #[.int .i64 k, .string ⟨t.toArray⟩, .int .u64 v, .int .i64 ln, .int .i64 cl] 34)).heap[w1.heap.size]? = some (.cells #[.int .i64 k, .string ⟨t.toArray⟩, .int .u64 v, .int .i64 ln, .int .i64 cl] 34) := (Below.heap_alloc _ _ _ (by simp)).trans (World.alloc_heap_new w1 _)
                  unfold World.cell?
                  rw [show (⟨w1.heap.size, 1, none⟩ : Addr).block = w1.heap.size from rfl, hq2]
                  rfl
                · exact hb3.grown hgrow hb3.size (fun k e => own_base hown e)
            clear hrd hst hinv3 hsc HT0 hdc hfr hle hfull ht1 ht2 ht4 hsn hcnt
            go_wp2_with (first | (go_at_call 37; (with_reducible refine ((HG _).out).mono ?_); rintro e w' ⟨rfl, hw⟩; subst w') | (go_at_call 38; (with_reducible refine ((HT _).out).mono ?_); rintro e w1 ⟨rfl, hb1⟩) | (at_builtin; obtain ⟨m1, m2, m3, m4⟩ := (hmore w1 hb1).out; refine wpList_append_own_at _ rfl _ _ 24 rfl w.heap.size 34 i0 _ 5 48 Tryd.underlying24 hi hz0 hz1 hz2 rfl (by decide) _ _ _ rfl m1 ⟨w1.heap.size + 1, 0, none⟩ 1 1 [.int .i64 k, .string ⟨t.toArray⟩, .int .u64 v, .int .i64 ln, .int .i64 cl] rfl rfl m3 (by simp [Value.oneCell']) p1 p2 m2 ?_; intro v' w2 hown' hgrow _ _; obtain ⟨g', cap', rfl⟩ := ownsRow_succ hown'; obtain ⟨hc2, hb2⟩ := m4 w2 hgrow; clear m1 m2 m3 m4 hmore))
            exact ⟨⟨p + t.length, ln, cl + t.length, ct + 1, rfl, rfl, rfl, r1, r2, r3, ht3, by rw [HSN.out]; exact hown', hb2, HS⟩, r4⟩
      · have dl : decide ((p : Int) < src.length) = false := decide_eq_false (by omega)
        have he : scan (src.drop p) ln cl ct = ([], none) := by rw [List.drop_eq_nil_of_le (by omega)]; exact scan_nil _ _ _
        rw [hinv.out] at he
        obtain ⟨q1, q2, q3⟩ := cells_end he hct
        rw [q3] at hown
        replace hown := (congrArg (fun n => wr.ownsRow w.heap.size 34 5 (.slice vp ct vc) n (tksCells R.1)) q1).mp hown
        have HQ : Hid (R.2 = none) := q2
        clear he hinv hext q1 q2 q3 hcnt hct
        go_wp2
        refine bodyPost_ret (by simp [results, Tryd.results26, go_sem]; try rfl) rfl ?_
        exact ⟨hbel, _, by rw [HQ.out]; rfl, hown⟩
  · rw [scanT_long src hl]
    have d0 : decide ((src.length : Int) > 65536) = true := decide_eq_true (by omega)
    have d1 : decide ((65536 : Int) < src.length) = true := decide_eq_true (by omega)
    go_enter Tryd.func26, Tryd.ntmps26
    go_wp2
    refine bodyPost_ret (by simp [results, Tryd.results26, go_sem]; try rfl) rfl ?_
    exact ⟨Below.refl _ _, _, rfl, World.ownsRow_nil _ _ _ _⟩

end Go.Proofs.YtckhliilndfljaaDoor
