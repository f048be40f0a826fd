/- Walks: a query that is parsed, the program's. -/
import Derived.Test.YtfohknpjlkjbbaaGreatDoorQD
namespace Go.Proofs.YtfohknpjlkjbbaaGreatDoor
open Go Go.RowKit Tg Pk Ky Qy

theorem readQ_any (b bw cw : Nat) (ws : List ByteArray) (w : World) (hE : Env w) (hb : 0 < b) (h : RB w b 0 ⟨#[]⟩ (.slice none 0 0) (.slice none 0 0) (.slice (some ⟨bw, 0, none⟩) ws.length cw)) (hcw : ws.length ≤ cw) (hne : bw ≠ b) (hlt : bw < w.heap.size) (hL : Lies w bw 0 ws) (hs : ∀ x ∈ ws, x.size ≤ 900) :
    Calls Tryz.prog 41 #[.pointer (some ⟨b, 0, none⟩)] w fun e w' => e = .returned (.int .i64 (QP ws).2) ∧ w.grownBy w' (some b) ∧ ((QP ws).2 = 0 → Told w' b (.slice (some ⟨bw, 0, none⟩) ws.length cw) (QP ws).1) := by
  have no : shapedW ws = false → QP ws = (qnone, 2) → Calls Tryz.prog 41 #[.pointer (some ⟨b, 0, none⟩)] w fun e w' => e = .returned (.int .i64 (QP ws).2) ∧ w.grownBy w' (some b) ∧ ((QP ws).2 = 0 → Told w' b (.slice (some ⟨bw, 0, none⟩) ws.length cw) (QP ws).1) := by
    intro h1 h2
    rw [h2]
    refine (read_not b _ _ _ _ _ ws w h ⟨bw, cw, rfl, hcw, hne, hlt, hL⟩ h1).mono ?_
    rintro e w' ⟨h3, h4⟩
    exact ⟨h3, h4, fun h => absurd h (by decide)⟩
  by_cases h2 : ws.length = 2
  · match ws, h2 with
    | [x, y], _ =>
      rw [QP_two]
      exact read_two b bw cw x y w hE hb h hcw hne hlt hL (hs y (by simp))
  · by_cases h4 : ws.length = 4
    · match ws, h4 with
      | [x, y, z, u], _ =>
        cases hz : eqB z ⟨#[98, 121]⟩
        · exact no (by rw [shaped_four]; exact hz) (by rw [QP_four, hz]; rfl)
        · rw [QP_four, hz, if_pos rfl]
          exact read_four b bw cw x y z u w hE hb h hcw hne hlt hL hz (hs y (by simp)) (hs u (by simp))
    · exact no (shaped_else h2 h4) (QP_else h2 h4)
theorem fieldsB_small (s : ByteArray) {M : Nat} (h : s.size ≤ M) : ∀ x ∈ fieldsB s, x.size ≤ M := by
  intro x hx
  unfold fieldsB at hx
  obtain ⟨p, hp, rfl⟩ := List.mem_map.1 hx
  have h1 := parts_small 32 _ p (List.mem_filter.1 hp).1
  have hz := size_l s
  rw [← size_l, ba_list]
  omega
theorem fieldsB_lists (s : ByteArray) : listsW (fieldsB s) = Word.fields s.data.toList := by
  unfold listsW fieldsB
  exact map_ba _
theorem QP_fields (s : ByteArray) : QP (fieldsB s) = qparse s.data.toList := by
  unfold QP qparse
  rw [fieldsB_lists]
theorem RB.new (W : World) (b : Nat) (hb : b = W.heap.size) (g : Int) (n : ByteArray) (m l s : Value) : RB (W.alloc (.cells #[.int .i64 g, .string n, m, l, s] 54)) b g n m l s := by
  subst hb
  refine ⟨⟨?_, ?_, ?_, ?_, ?_⟩, ⟨?_, ?_, ?_, ?_, ?_⟩, fun i hi => ?_⟩
  rotate_right
  · simp [go_sem]
    omega
  all_goals simp [go_sem]

/-- What is handed back does not lie in the box of the answer. -/
theorem rows_else {w : World} {b0 : Nat} (hc : ∀ i, w.cell? ⟨b0, i, none⟩ = (#[Value.int .i64 0, Value.string ⟨#[]⟩, Value.slice none 0 0, Value.slice none 0 0] : Array Value)[i]?) :
    (∀ {b' o : Nat} {M : List Match}, MLies w b' o M → M ≠ [] → b' ≠ b0) ∧ (∀ {b' o : Nat} {l : List ByteArray}, Lies w b' o l → l ≠ [] → l.all nmB = true → b' ≠ b0) := by
  constructor
  · rintro b' o M hL hne rfl
    obtain ⟨e0, e1, e2⟩ := hL 0 (List.length_pos_iff.2 hne)
    simp only [Nat.zero_mul, Nat.add_zero] at e0 e1 e2
    rw [hc] at e0 e2
    match o, e0, e2 with
    | 0, _, e2 => simp at e2
    | 1, e0, _ => simp at e0
    | 2, e0, _ => simp at e0
    | 3, e0, _ => simp at e0
    | o + 4, e0, _ => simp at e0
  · rintro b' o l hL hne hnm rfl
    have hp := List.length_pos_iff.2 hne
    have e0 := hL.at 0 hp
    have hn := List.all_eq_true.1 hnm _ (List.getElem_mem hp)
    rw [hc] at e0
    simp only [Nat.add_zero] at e0
    match o, e0 with
    | 0, e0 => simp at e0
    | 1, e0 =>
      simp at e0
      rw [← e0] at hn
      revert hn
      decide
    | 2, e0 => simp at e0
    | 3, e0 => simp at e0
    | o + 4, e0 => simp at e0
theorem told_far {w w1 : World} {b0 : Nat} {q : Query} {a a' : Option Addr} {c c' : Nat} (hc : ∀ i, w.cell? ⟨b0, i, none⟩ = (#[Value.int .i64 0, Value.string ⟨#[]⟩, Value.slice none 0 0, Value.slice none 0 0] : Array Value)[i]?) (gr : w.grownBy w1 (some b0)) (hq : q.2.2.2.all nmB = true)
    (hm : MRow w (.slice a q.2.2.1.length c) q.2.2.1) (hl : Row w (.slice a' q.2.2.2.length c') q.2.2.2) : QRow w1 (.agg #[.int .i64 q.1, .string q.2.1, .slice a q.2.2.1.length c, .slice a' q.2.2.2.length c']) q := by
  obtain ⟨r1, r2⟩ := rows_else hc
  refine ⟨_, _, rfl, ?_, ?_⟩
  · obtain ⟨a1, c1, hv, hcc, hat⟩ := hm
    refine ⟨a1, c1, hv, hcc, fun hne => ?_⟩
    obtain ⟨b', o, ha, hlt, hL⟩ := hat hne
    have hbb := r1 hL hne
    refine ⟨b', o, ha, Nat.lt_of_lt_of_le hlt gr.size, fun i hi => ?_⟩
    obtain ⟨e0, e1, e2⟩ := hL i hi
    have hf : ∀ k, w1.cell? ⟨b', k, none⟩ = w.cell? ⟨b', k, none⟩ := fun k => gr.cell_far ⟨b', k, none⟩ hlt (fun e => hbb (Option.some.inj e))
    exact ⟨(hf _).trans e0, (hf _).trans e1, (hf _).trans e2⟩
  · obtain ⟨a1, c1, hv, hcc, hat⟩ := hl
    refine ⟨a1, c1, hv, hcc, fun hne => ?_⟩
    obtain ⟨b', o, ha, hlt, hL⟩ := hat hne
    exact ⟨b', o, ha, Nat.lt_of_lt_of_le hlt gr.size, hL.far hlt (r2 hL hne hq) gr⟩

set_option maxRecDepth 100000 in
set_option maxHeartbeats 1000000 in
theorem qparse_any (s : ByteArray) (w : World) (hE : Env w) (hs : s.size ≤ 900) :
    Calls Tryz.prog 15 #[.string s] w fun e w' => (∃ qv, e = .returned (.tuple #[qv, .int .i64 (qparse s.data.toList).2]) ∧ QRow w' qv (qparse s.data.toList).1) ∧ Below w.heap.size w w' := by
  have HF := Lib.hid (fun W (h : Env W) => fields_any s W h (by omega))
  have hsm := fieldsB_small s hs
  have HOk : Hid ((QP (fieldsB s)).2 = 0 → (QP (fieldsB s)).1.2.2.2.all nmB = true) := by
    rw [QP_fields]
    intro h0
    have h1 := qparse_ok h0
    simp only [qright, Bool.and_eq_true, decide_eq_true_eq] at h1
    exact (byE_ok h1.2).1
  have HEr : Hid (¬ (QP (fieldsB s)).2 = 0 → (QP (fieldsB s)).1 = qnone) := by
    rw [QP_fields]
    exact qparse_err
  rw [← QP_fields s]
  have HR := Lib.hid (fun b bw cw W h1 h2 h3 h4 h5 h6 h7 => readQ_any b bw cw (fieldsB s) W h1 h2 h3 h4 h5 h6 h7 hsm)
  generalize QP (fieldsB s) = C at *
  obtain ⟨q, er⟩ := C
  dsimp only at HOk HEr HR ⊢
  clear hsm
  go_enter Tryz.func15, Tryz.ntmps15
  go_wp2_with fail
  refine (HF.out _ (hE.alloc _)).mono ?_
  rintro e w1 ⟨c, rfl, hc, hz, hL, n1⟩
  have d1 := belowA n1
  have hE1 := hE.go d1
  have i0 := newC (i := 0) n1
  have i1 := newC (i := 1) n1
  have i2 := newC (i := 2) n1
  have i3 := newC (i := 3) n1
  have f0 := keepF (b := w.heap.size) (off := 0) (x := false) n1 (by simp [go_sem]) (by simp)
  have f1 := keepF (b := w.heap.size) (off := 1) (x := false) n1 (by simp [go_sem]) (by simp)
  have f2 := keepF (b := w.heap.size) (off := 2) (x := false) n1 (by simp [go_sem]) (by simp)
  have f3 := keepF (b := w.heap.size) (off := 3) (x := false) n1 (by simp [go_sem]) (by simp)
  have hcc := fun i => newC (i := i) n1
  simp at i0 i1 i2 i3 hz hL
  have zw : w.heap.size < w1.heap.size := by omega
  have nb := aBelow w1 (.cells #[.int .i64 0, .string ⟨#[]⟩, .slice none 0 0, .slice none 0 0, .slice (some ⟨w.heap.size + 1 + 1, 0, none⟩) (fieldsB s).length c] 54)
  have H4 := Lib.hid (HR.out w1.heap.size (w.heap.size + 1 + 1) c _ (hE1.alloc _) (by omega) (RB.new w1 w1.heap.size rfl 0 ⟨#[]⟩ (.slice none 0 0) (.slice none 0 0) (.slice (some ⟨w.heap.size + 1 + 1, 0, none⟩) (fieldsB s).length c)) hc (by omega) (by simp; omega) (hL.on (by omega) nb))
  have hZ : (w1.alloc (.cells #[.int .i64 0, .string ⟨#[]⟩, .slice none 0 0, .slice none 0 0, .slice (some ⟨w.heap.size + 1 + 1, 0, none⟩) (fieldsB s).length c] 54)).heap.size = w1.heap.size + 1 := by simp
  clear n1 HF HR
  go_wp2_with fail
  refine (H4.out).mono ?_
  rintro e w2 ⟨rfl, G2, hT⟩
  have n2 : Below w1.heap.size w1 w2 := nb.grown G2 (by rw [hZ]; omega) (fun k hk => by cases hk; exact Nat.le_refl _)
  have HT := Lib.hid hT
  have i0 := keepC n2 i0 zw
  have i1 := keepC n2 i1 zw
  have i2 := keepC n2 i2 zw
  have i3 := keepC n2 i3 zw
  have f0 := keepF n2 f0 zw
  have f1 := keepF n2 f1 zw
  have f2 := keepF n2 f2 zw
  have f3 := keepF n2 f3 zw
  have hcc := fun i => keepC n2 (hcc i) zw
  have d2 := d1.trans (n2.mono d1.size)
  clear n2 G2 nb hT H4 hL d1 hE1 hZ
  by_cases he : er = 0
  · subst he
    obtain ⟨a, c1, a', c2, R2, M2, r2⟩ := HT.out rfl
    have hq := HOk.out rfl
    obtain ⟨⟨x0, x1, x2, x3, x4⟩, _, _⟩ := id R2
    have G1 := Lib.grownBy_setB (Lib.grownBy_setB (Lib.grownBy_setB (Lib.grownBy_setB (World.grownBy.refl w2 (some w.heap.size)) 0 (.int .i64 q.1)) 1 (.string q.2.1)) 2 (.slice a q.2.2.1.length c1)) 3 (.slice a' q.2.2.2.length c2)
    have QR := Lib.hid (told_far hcc G1 hq M2 r2)
    have dd := Lib.hid ((((d2.setCell (p := ⟨w.heap.size, 0, none⟩) (Nat.le_refl _) (.int .i64 q.1)).setCell (p := ⟨w.heap.size, 1, none⟩) (Nat.le_refl _) (.string q.2.1)).setCell (p := ⟨w.heap.size, 2, none⟩) (Nat.le_refl _) (.slice a q.2.2.1.length c1)).setCell (p := ⟨w.heap.size, 3, none⟩) (Nat.le_refl _) (.slice a' q.2.2.2.length c2))
    clear hcc R2 M2 r2 HT HOk HEr G1
    go_wp2_with fail
    exact bodyPost_ret (v := .tuple #[.agg #[.int .i64 q.1, .string q.2.1, .slice a q.2.2.1.length c1, .slice a' q.2.2.2.length c2], .int .i64 0]) (by simp [results, Tryz.results15, go_sem, i0, i1, i2, i3]) rfl ⟨⟨_, rfl, QR.out⟩, dd.out⟩
  · have hq : (er == 0) = false := by simp [he]
    have hq0 := HEr.out he
    subst hq0
    clear hcc HT HOk HEr
    have dd := Lib.hid ((((d2.setCell (p := ⟨w.heap.size, 0, none⟩) (Nat.le_refl _) (.int .i64 0)).setCell (p := ⟨w.heap.size, 1, none⟩) (Nat.le_refl _) (.string ⟨#[]⟩)).setCell (p := ⟨w.heap.size, 2, none⟩) (Nat.le_refl _) (.slice none 0 0)).setCell (p := ⟨w.heap.size, 3, none⟩) (Nat.le_refl _) (.slice none 0 0))
    go_wp2_with fail
    exact bodyPost_ret (v := .tuple #[.agg #[.int .i64 0, .string ⟨#[]⟩, .slice none 0 0, .slice none 0 0], .int .i64 er]) (by simp [results, Tryz.results15, go_sem, i0, i1, i2, i3]) rfl ⟨⟨_, rfl, qnone_row _⟩, dd.out⟩
end Go.Proofs.YtfohknpjlkjbbaaGreatDoor
