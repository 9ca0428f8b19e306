import Derived.Test.YtcifdlncbekohaaDoorSC4
import Derived.Test.YtcifdlncbekohaaDoorSC3
namespace Go.Proofs.YtcifdlncbekohaaDoor
open Go.ChangeShapes Go.WideShapes Go.ChangeAt Go.RowKit
set_option linter.unusedVariables false
set_option linter.unusedSimpArgs false

theorem evb_byteC {t q : Nat} {s d k v : Int} : ∀ c ∈ evb t q s d k v, c < 256 := by
  intro c hc
  simp only [evb, List.mem_append] at hc
  rcases hc with h | h | h | h | h | h <;> exact enc_byte _ c h
theorem evsB_byteC : ∀ (es : List Ev), ∀ c ∈ evsB es, c < 256
  | [], c, h => by cases h
  | e :: es, c, h => by
    simp only [evsB, List.mem_append] at h
    rcases h with h | h
    · exact evb_byteC c h
    · exact evsB_byteC es c h
theorem bOf_inC {l : List Nat} (h : ∀ c ∈ l, c < 256) (i : Nat) : 0 ≤ bOf l i ∧ bOf l i ≤ 255 := by
  unfold bOf
  by_cases hi : i < l.length
  · have := h l[i] (List.getElem_mem hi)
    simp only [List.getD, List.getElem?_eq_getElem hi, Option.getD_some]
    omega
  · simp [List.getD, hi]
theorem mem_app {a b : List Nat} (ha : ∀ x ∈ a, x < 256) (hb : ∀ x ∈ b, x < 256) : ∀ x ∈ a ++ b, x < 256 := fun x hx => by
  rcases List.mem_append.1 hx with h | h
  · exact ha x h
  · exact hb x h
theorem bytes_six (e : Ev) : 6 ≤ e.bytes.length := by
  have := evsB_ge [e]
  simpa [evsB] using this

/-! ### CopyBytes -/
theorem row_own {w : World} {base E g n cap : Nat} {cs : Array Value} (h : w.heap[g]? = some (.cells cs E (0, 0))) (hb : base ≤ g) (hn : n ≤ cap) (hc : cap ≤ maxLen) (hs : cs.size = cap) : w.ownsRow base E 1 (.slice (some ⟨g, 0, none⟩) n cap) n (cs.toList.take n) :=
  ⟨by simp; omega, .inr ⟨g, cap, cs, rfl, hb, h, hn, hc, by omega, by simp⟩⟩
set_option maxHeartbeats 1000000 in
theorem copyB (l : List Nat) (v : Value) (w : World) (hL : l.length ≤ 1000000000000) (h : LiesAt w v l) :
    Calls Tryd.prog 7 #[v] w fun r w' => ∃ v', r = .returned v' ∧ BRow w' w.heap.size v' l ∧ Below w.heap.size w w' := by
  obtain ⟨b, cap, rfl, hlt, hc, _, _⟩ := h
  obtain ⟨i5, hi5, ha5, hb5, hc5⟩ := sinfo Tryd.info5'
  have hsz : (Tryd.prog.info? 5).map (·.size) = some 1 := by simp [hi5, hb5]
  obtain ⟨L, hLL⟩ : ∃ L, l.length = L := ⟨_, rfl⟩
  rw [hLL]
  go_enter Tryd.func7, Tryd.ntmps7
  go_wp2_with (at_make; refine wpList_make_full _ rfl (.tmp 5) (.tmp 5) 23 rfl w.heap.size 5 i5 (.int .u8 0) 1 Tryd.underlying23 hi5 ha5 hb5 .i64 .i64 L L L rfl rfl rfl rfl ?c1 ?c2 ?c3 ?_)
  case c1 => rw [hc5]; omega
  case c2 => unfold maxLen; omega
  case c3 => exact Nat.le_refl _
  intro w1 hown hgrow
  obtain ⟨cur, hcur, hcs⟩ : ∃ cur : List Value, w1.heap[w.heap.size]? = some (.cells cur.toArray 5 (0, 0)) ∧ cur.length = L := by
    obtain ⟨_, hx | ⟨g', cap', cur, hv, _, hh, _, _, hs, _⟩⟩ := hown
    · simp at hx
    · simp at hv
      obtain ⟨rfl, rfl⟩ := hv
      exact ⟨cur.toList, by simpa using hh, by simpa using hs⟩
  have hb1 : Below w.heap.size w w1 := (Below.refl _ _).grown hgrow (Nat.le_refl _) (by simp)
  have hB1 : ∀ i, i < l.length → w1.cell? ⟨b, 0 + i, none⟩ = some (.int .u8 (bOf l i)) := fun i hi => (cell_below (a := ⟨b, 0 + i, none⟩) hb1 hlt).trans (hc i hi)
  have HC : Hid (w1.heap[w.heap.size]? = some (.cells cur.toArray 5 (0, 0))) := hcur
  clear hown hgrow hcur hc
  go_wp2_with (refine wpList_copy_splice rfl (.tmp 7) (.tmp 8) 23 23 rfl 5 Tryd.underlying23 hsz (some ⟨w.heap.size, 0, none⟩) (some ⟨b, 0, none⟩) L L L cap rfl rfl w.heap.size 0 cur 5 HC.out (bcs l) ?d1 ?d2 ?d3 (bcs_one l) w.heap.size w hb1 (Nat.le_refl _) ?_)
  case d1 => rw [bcs_len, hLL]; simp
  case d2 =>
    intro hp j u hj
    have hjl : j < l.length := by
      rcases Nat.lt_or_ge j l.length with z | z
      · exact z
      · rw [List.getElem?_eq_none (by rw [bcs_len]; exact z)] at hj; simp at hj
    rw [bcs_get hjl] at hj
    have hx := hB1 j hjl
    rw [Nat.zero_add] at hx
    rw [hx]
    exact hj
  case d3 => rw [bcs_len]; omega
  intro w2 hh2 hb2
  have hfull : splice cur 0 (bcs l) = bcs l := by
    simp [splice, bcs_len]
    omega
  have H2 : Hid (w2.heap[w.heap.size]? = some (.cells (bcs l).toArray 5 (0, 0))) := by rw [← hfull]; exact hh2
  clear hh2 HC
  go_wp2
  go_ret
  refine ⟨_, rfl, ?_, hb2⟩
  have := row_own (n := L) (cap := L) H2.out (Nat.le_refl _) (Nat.le_refl _) (by unfold maxLen; omega) (by simp [bcs_len, hLL])
  unfold BRow
  rw [hLL]
  simpa [List.take_of_length_le, bcs_len, hLL] using this

/-! ### what is packed is read as it was, over the calls -/
theorem packS (e : Se) (hi : SeIn e) (w : World) :
    Calls Tryd.prog 10 #[.agg #[.int .u64 e.t, .int .i64 e.s, .int .u64 e.q, .int .i64 e.d, .int .i64 e.k, .int .i64 e.v]] w fun r w' => ∃ v', r = .returned v' ∧ BRow w' w.heap.size v' (toEv e).bytes ∧ Below w.heap.size w w' := by
  have h := toEv_in hi
  have := pack_any w.heap.size (toEv e).t (toEv e).q e.s e.d e.k e.v h.t h.q h.s h.d h.k h.v w (Nat.le_refl _)
  rw [toEv_t hi, toEv_q hi] at this
  refine this.mono ?_
  rintro r w' ⟨v', rfl, h1, h2, _⟩
  exact ⟨v', rfl, h1, h2⟩
theorem unpackS (e : Se) (hi : SeIn e) (t : List Nat) (ht : ∀ x ∈ t, x < 256) (v : Value) (base : Nat) (w : World) (hL : ((toEv e).bytes ++ t).length ≤ 1000000000000) (h : BRow w base v ((toEv e).bytes ++ t)) :
    Calls Tryd.prog 11 #[v] w fun r w' => r = .returned (.tuple #[.agg #[.int .u64 e.t, .int .i64 e.s, .int .u64 e.q, .int .i64 e.d, .int .i64 e.k, .int .i64 e.v], .int .i64 ((toEv e).bytes.length : Nat), .int .i64 0]) ∧ Below w.heap.size w w' := by
  have h6 := bytes_six (toEv e)
  obtain ⟨b, cap, rfl, hlt, hc, _, _⟩ := lies_of_own h (by rw [List.length_append]; omega)
  obtain ⟨l, hl⟩ : ∃ l, (toEv e).bytes ++ t = l := ⟨_, rfl⟩
  rw [hl] at hc hL ⊢
  have hby : ∀ c ∈ l, c < 256 := by rw [← hl]; exact mem_app evb_byteC ht
  obtain ⟨r1, r2⟩ := ev_read (l := l) (L := l.length) (a := 0) (e := toEv e) (r := t) (toEv_in hi) (by rw [List.drop_zero, hl]) (by rw [← hl, List.length_append]; omega)
  have := unpack_any b 0 l.length cap (bOf l) w (by omega) hlt hc (fun i _ => bOf_inC hby i)
  rw [r1, r2, toEv_cells hi] at this
  refine this.mono ?_
  rintro r w' ⟨rfl, h2⟩
  refine ⟨?_, h2⟩
  simp [seL]
theorem packAllS (n : Nat) (X : Nat → Se) (hi : ∀ i, i < n → SeIn (X i)) (p : Option Addr) (cap : Nat) (w : World) (h : SIn w p n X) (hL : n ≤ 1000000000000) :
    Calls Tryd.prog 5 #[.slice p n cap] w fun r w' => ∃ v', r = .returned v' ∧ BRow w' w.heap.size v' (enc n ++ evsB (evL X n)) ∧ Below w.heap.size w w' := by
  have := packAll_any (evL X n) p cap w (evsAt_of h hi) (by rw [evL_len]; exact hL)
  rw [evL_len] at this
  exact this
theorem unpackAllS (n : Nat) (X : Nat → Se) (hi : ∀ i, i < n → SeIn (X i)) (t : List Nat) (ht : ∀ x ∈ t, x < 256) (v : Value) (base : Nat) (w : World) (hL : (enc n ++ evsB (evL X n) ++ t).length ≤ 1000000000000) (hn : n ≤ 1000000000000) (h : BRow w base v (enc n ++ evsB (evL X n) ++ t)) :
    Calls Tryd.prog 6 #[v] w fun r w' => ∃ p c, r = .returned (.tuple #[.slice p n c, .int .i64 ((enc n ++ evsB (evL X n)).length : Nat), .int .i64 0]) ∧ SIn w' p n X ∧ Below w.heap.size w w' := by
  have h1 := enc_pos n
  obtain ⟨b, cap, rfl, hlt, hc, _, _⟩ := lies_of_own h (by rw [List.length_append, List.length_append]; omega)
  have hall := all_read (evL X n) t (evL_in hi) (by rw [evL_len]; omega) (L := (enc n ++ evsB (evL X n) ++ t).length) (by rw [evL_len, List.length_append (bs := t)]; omega)
  rw [evL_len, evsC_evL hi] at hall
  obtain ⟨l, hl⟩ : ∃ l, enc n ++ evsB (evL X n) ++ t = l := ⟨_, rfl⟩
  rw [hl] at hc hL hall ⊢
  have hby : ∀ c ∈ l, c < 256 := by rw [← hl]; exact mem_app (mem_app (enc_byte n) (evsB_byteC _)) ht
  have := unpackAll_any b 0 l.length cap (bOf l) w hL hlt hc (fun i _ => bOf_inC hby i)
  rw [hall] at this
  refine this.mono ?_
  rintro r w' ⟨vl, m, e, rfl, h2, h3⟩
  unfold AllRes at h2
  rw [if_pos rfl] at h2
  obtain ⟨⟨c0, ho⟩, rfl, rfl⟩ := h2
  have hcn : c0 = n := by
    have h4 := ho.1
    rw [cellsF_len] at h4
    omega
  subst hcn
  have hO : Own w' (w.heap.size + 1) 36 6 vl c0 (seF X) := ho
  obtain ⟨p, c, rfl⟩ := own_slice hO
  exact ⟨p, c, rfl, own_sin0 hO, h3⟩
theorem textS (e : Se) (hi : SeIn e) (w : World) (g : Gr w) :
    Calls Tryd.prog 13 #[.agg #[.int .u64 e.t, .int .i64 e.s, .int .u64 e.q, .int .i64 e.d, .int .i64 e.k, .int .i64 e.v]] w fun r w' => r = .returned (.string ⟨(txt (toEv e).t (toEv e).q e.s e.d e.k e.v).toArray⟩) ∧ Below w.heap.size w w' := by
  have h := toEv_in hi
  have := text_any (toEv e).t (toEv e).q e.s e.d e.k e.v h.t h.q h.s h.d h.k h.v w g.tab
  rw [toEv_t hi, toEv_q hi] at this
  exact this
theorem txt_short (e : Se) (hi : SeIn e) : (txt (toEv e).t (toEv e).q e.s e.d e.k e.v).length ≤ 200 := by
  have h := toEv_in hi
  have h1 := dec_len _ h.t
  have h2 := dec_len _ h.q
  have h3 := itoa_len _ h.s.1 h.s.2
  have h4 := itoa_len _ h.d.1 h.d.2
  have h5 := itoa_len _ h.k.1 h.k.2
  have h6 := itoa_len _ h.v.1 h.v.2
  have e1 : (toEv e).s = e.s := rfl
  have e2 : (toEv e).d = e.d := rfl
  have e3 : (toEv e).k = e.k := rfl
  have e4 : (toEv e).v = e.v := rfl
  rw [e1] at h3
  rw [e2] at h4
  rw [e3] at h5
  rw [e4] at h6
  simp only [txt, List.length_append, List.length_cons, List.length_nil]
  omega
theorem parseS (e : Se) (hi : SeIn e) (w : World) (g : Gr w) :
    Calls Tryd.prog 12 #[.string ⟨(txt (toEv e).t (toEv e).q e.s e.d e.k e.v).toArray⟩] w fun r w' => r = .returned (.tuple #[.agg #[.int .u64 e.t, .int .i64 e.s, .int .u64 e.q, .int .i64 e.d, .int .i64 e.k, .int .i64 e.v], .int .i64 0]) ∧ Below w.heap.size w w' := by
  have h := toEv_in hi
  refine (parse_any _ (by have := txt_short e hi; omega) w g).mono ?_
  rintro r w' ⟨ev, n, rfl, h1, h2⟩
  have ha : Answer (txt (toEv e).t (toEv e).q e.s e.d e.k e.v) (evV (toEv e).t (toEv e).q e.s e.d e.k e.v) 0 := .inl ⟨_, _, _, _, _, _, ⟨h.t, h.q, h.s, h.d, h.k, h.v⟩, rfl, rfl, rfl⟩
  obtain ⟨rfl, rfl⟩ := h1.one ha
  refine ⟨?_, h2⟩
  unfold evV
  rw [toEv_t hi, toEv_q hi]
end Go.Proofs.YtcifdlncbekohaaDoor
