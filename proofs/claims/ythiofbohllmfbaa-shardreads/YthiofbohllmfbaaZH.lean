/- Where an entry stands, or would: walks of the program's own find, of its closure, and of the library's Find. -/
import Derived.Test.YthiofbohllmfbaaZC
namespace Go.Proofs.Ythiofbohllmfbaa.Sh
open Go Go.RowKit Go.Sort Go.Lib Cl Ce Ch

/-- What find's closure captures. -/
def FG (W : World) (b8 b3 : Nat) (v : Value) (wi : Int) (k : ByteArray) (l : List Ent) : Prop := ∃ f, W.cell? ⟨b8, 0, none⟩ = some f ∧ AG W f wi k ∧ W.cell? ⟨b3, 0, none⟩ = some v ∧ SRow W v l
theorem FG.on {W W1 : World} {b8 b3 : Nat} {v : Value} {wi : Int} {k : ByteArray} {l : List Ent} (h : FG W b8 b3 v wi k l) (n : Below W.heap.size W W1) : FG W1 b8 b3 v wi k l := by
  obtain ⟨f, h0, h1, h2, h3⟩ := h
  exact ⟨f, keepC n h0 (World.block_lt_of_cell? _ _ h0), h1.on n, keepC n h2 (World.block_lt_of_cell? _ _ h2), h3.on n⟩

theorem ff_on {p1 p2 p3 p4 p5 p6 p7 : Addr} {v1 v2 v3 v4 v5 v6 v7 : Value} {w1 w2 : World} (h : w1.cell? p1 = some v1 ∧ w1.cell? p2 = some v2 ∧ w1.cell? p3 = some v3 ∧ w1.cell? p4 = some v4 ∧ w1.cell? p5 = some v5 ∧ w1.cell? p6 = some v6 ∧ w1.cell? p7 = some v7) (n : Below w1.heap.size w1 w2) :
    w2.cell? p1 = some v1 ∧ w2.cell? p2 = some v2 ∧ w2.cell? p3 = some v3 ∧ w2.cell? p4 = some v4 ∧ w2.cell? p5 = some v5 ∧ w2.cell? p6 = some v6 ∧ w2.cell? p7 = some v7 := by
  obtain ⟨h1, h2, h3, h4, h5, h6, h7⟩ := h
  refine ⟨?_, ?_, ?_, ?_, ?_, ?_, ?_⟩
  · rw [n.cell (World.block_lt_of_cell? _ _ h1)]; exact h1
  · rw [n.cell (World.block_lt_of_cell? _ _ h2)]; exact h2
  · rw [n.cell (World.block_lt_of_cell? _ _ h3)]; exact h3
  · rw [n.cell (World.block_lt_of_cell? _ _ h4)]; exact h4
  · rw [n.cell (World.block_lt_of_cell? _ _ h5)]; exact h5
  · rw [n.cell (World.block_lt_of_cell? _ _ h6)]; exact h6
  · rw [n.cell (World.block_lt_of_cell? _ _ h7)]; exact h7
set_option maxRecDepth 100000 in
set_option maxHeartbeats 4000000 in
theorem find1_any (b8 b3 : Nat) (v : Value) (wi : Int) (key : ByteArray) (l : List Ent) (k : Nat) (hk : k < l.length) (w : World) (h : FG w b8 b3 v wi key l) :
    Calls Try.prog 49 #[.int .i64 k, .pointer (some ⟨b8, 0, none⟩), .pointer (some ⟨b3, 0, none⟩)] w fun e w' => e = .returned (.int .i64 (pcmp wi key (l[k]).win (l[k]).key)) ∧ Below w.heap.size w w' := by
  obtain ⟨f, c8, ⟨B0, B1, rfl, g0, g1⟩, c3, hr⟩ := h
  obtain ⟨a, c, rfl, hc, hl⟩ := hr.at
  obtain ⟨b, o, rfl, hb, hL⟩ := hl (ne_of_lt hk)
  obtain ⟨sl, e1, e2, e3, hv⟩ := hL k hk
  have hsl := vrow_one hv
  have i1 : (k : Int) < (l.length : Int) := by omega
  have i2 : (0 : Int) ≤ (k : Int) := by omega
  have HA := Lib.hid (fun W x0 x1 x2 => against1_any B0 B1 wi key x0 x1 x2 W)
  generalize l[k] = x at *
  obtain ⟨x0, x1, x2⟩ := x
  simp only at e1 e2 e3 hv ⊢
  clear hL hl hr hv
  have hS : w.drew.cell? ⟨b8, 0, none⟩ = some (.func (.func 56) #[] #[.pointer (some ⟨B0, 0, none⟩), .pointer (some ⟨B1, 0, none⟩)]) ∧ w.drew.cell? ⟨b3, 0, none⟩ = some (.slice (some ⟨b, o, none⟩) l.length c) ∧ w.drew.cell? ⟨b, o + k * 3, none⟩ = some (.int .i64 x0) ∧ w.drew.cell? ⟨b, o + k * 3 + 1, none⟩ = some (.string x1) ∧ w.drew.cell? ⟨b, o + k * 3 + 2, none⟩ = some sl ∧ w.drew.cell? ⟨B0, 0, none⟩ = some (.int .i64 wi) ∧ w.drew.cell? ⟨B1, 0, none⟩ = some (.string key) := ⟨c8, c3, e1, e2, e3, g0, g1⟩
  go_enter Try.func49, Try.ntmps49
  go_wp2_with fail
  clear c8 c3 e1 e2 e3 g0 g1
  go_region_held3 (fun w' => w'.cell? ⟨b8, 0, none⟩ = some (.func (.func 56) #[] #[.pointer (some ⟨B0, 0, none⟩), .pointer (some ⟨B1, 0, none⟩)]) ∧ w'.cell? ⟨b3, 0, none⟩ = some (.slice (some ⟨b, o, none⟩) l.length c) ∧ w'.cell? ⟨b, o + k * 3, none⟩ = some (.int .i64 x0) ∧ w'.cell? ⟨b, o + k * 3 + 1, none⟩ = some (.string x1) ∧ w'.cell? ⟨b, o + k * 3 + 2, none⟩ = some sl ∧ w'.cell? ⟨B0, 0, none⟩ = some (.int .i64 wi) ∧ w'.cell? ⟨B1, 0, none⟩ = some (.string key)) (first | exact hS | exact hS2) (first
    | (go_at_call 56; refine (HA.out _ _ _ _ hS.2.2.2.2.2.1 hS.2.2.2.2.2.2).mono ?_; rintro e w7 ⟨rfl, n7⟩; have hS2 := ff_on hS n7)
    | fail)
  have DD := Lib.hid (show Below w.heap.size w w7 from ⟨n7.os, n7.tape, n7.output, n7.size, n7.block⟩)
  rename_i hHeld
  clear hS hS2 hHeld n7
  go_wp2_with fail
  go_ret
  exact ⟨rfl, DD.out⟩

/-- Ahead of the place. -/
def lowP (wi : Int) (key : ByteArray) (e : Ent) : Bool := plt e.win e.key wi key
/-- Is an entry of the place there, where it would stand? -/
def thereS (wi : Int) (key : ByteArray) (l : List Ent) : Bool := match l.drop (aheadN wi key l) with
  | [] => false
  | e :: _ => hitE wi key e
set_option maxRecDepth 100000 in
set_option maxHeartbeats 4000000 in
theorem sortFind_any (b8 b3 : Nat) (v : Value) (wi : Int) (key : ByteArray) (l : List Ent) (hn : l.length ≤ 1000000) (hp : l.Pairwise fun a b => elt a b = true) (w : World) (h : FG w b8 b3 v wi key l) :
    Calls Try.prog 48 #[.int .i64 l.length, .func (.func 49) #[] #[.pointer (some ⟨b8, 0, none⟩), .pointer (some ⟨b3, 0, none⟩)]] w fun e w' => e = .returned (.tuple #[.int .i64 (aheadN wi key l), .bool (thereS wi key l)]) ∧ Below w.heap.size w w' := by
  have HC := Lib.hid (fun W (d : Below w.heap.size w W) k (hk : k < l.length) => find1_any b8 b3 v wi key l k hk W (h.on d))
  have HLT := Lib.hid (List.pairwise_iff_getElem.1 hp)
  obtain ⟨A, HA0⟩ : ∃ A, Hid (aheadN wi key l = A) := ⟨_, rfl⟩
  obtain ⟨TH, HT0⟩ : ∃ TH, Hid (thereS wi key l = TH) := ⟨_, rfl⟩
  rw [HA0.out, HT0.out]
  clear h hp
  go_enter Try.func48, Try.ntmps48
  go_wp2_with fail
  go_loopw [4, 6] (fun si sj wr => ∃ i j : Nat, i ≤ j ∧ j ≤ l.length ∧ si = .int .i64 i ∧ sj = .int .i64 j ∧ Hid (Below w.heap.size w wr) ∧ Hid (∀ p (hp : p < l.length), p < i → lowP wi key l[p] = true) ∧ Hid (∀ p (hp : p < l.length), j ≤ p → lowP wi key l[p] = false)) (fun si sj _ => (intOf sj).toNat - (intOf si).toNat)
  case atStart => exact ⟨0, l.length, Nat.zero_le _, Nat.le_refl _, rfl, rfl, Below.refl _ _, fun p _ hp => absurd hp (Nat.not_lt_zero p), fun p hp h => absurd h (by omega)⟩
  case round =>
    obtain ⟨i, j, hij, hjn, rfl, rfl, HD, HL, HH⟩ := hrel
    by_cases hlt : i < j
    · obtain ⟨m, hm⟩ : ∃ m : Nat, m = (i + j) / 2 := ⟨_, rfl⟩
      have hml : m < l.length := by omega
      have i1 : (i : Int) < (j : Int) := by omega
      have i2 : ((i : Int) + (j : Int)) / 2 = (m : Int) := by omega
      have hmi : i ≤ m := by omega
      have hmj : m < j := by omega
      clear hm
      have HE := Lib.hid (pcmp_pos wi (l[m]).win key (l[m]).key)
      have HCM := Lib.hid (HC.out _ HD.out m hml)
      have HLO : Hid (plt (l[m]).win (l[m]).key wi key = true → ∀ p (hp : p < l.length), p < m + 1 → lowP wi key l[p] = true) := fun hT p hp hpm => by
        by_cases q : p < m
        · exact plt_trans (HLT.out p m hp hml q) hT
        · have : p = m := by omega
          subst this; exact hT
      have HHI : Hid (plt (l[m]).win (l[m]).key wi key = false → ∀ p (hp : p < l.length), m ≤ p → lowP wi key l[p] = false) := fun hT p hp hpm => by
        by_cases q : m < p
        · cases hc : lowP wi key l[p]
          · rfl
          · exact absurd (plt_trans (HLT.out m p hml hp q) hc) (by rw [hT]; decide)
        · have : p = m := by omega
          subst this; exact hT
      generalize plt (l[m]).win (l[m]).key wi key = T at *
      generalize pcmp wi key (l[m]).win (l[m]).key = C at *
      cases T
      · have HM := Lib.hid (HHI.out rfl)
        have q1 : decide (0 < C) = false := HE.out
        clear HHI HLO HE
        go_wp2_with (first | (go_at_call 49; refine HCM.out.mono ?_; rintro e w1 ⟨rfl, n1⟩))
        exact ⟨⟨i, m, hmi, by omega, rfl, rfl, HD.out.trans (n1.mono HD.out.size), HL, HM⟩, by simp [intOf]; omega⟩
      · have HM := Lib.hid (HLO.out rfl)
        have q1 : decide (0 < C) = true := HE.out
        clear HHI HLO HE
        go_wp2_with (first | (go_at_call 49; refine HCM.out.mono ?_; rintro e w1 ⟨rfl, n1⟩))
        exact ⟨⟨m + 1, j, by omega, hjn, by go_num, rfl, HD.out.trans (n1.mono HD.out.size), HM, HH⟩, by simp [intOf]; omega⟩
    · have hij2 : j = i := by omega
      subst hij2
      have i1 : ¬ (j : Int) < (j : Int) := by omega
      have HA : Hid (aheadN wi key l = j) := aheadN_at wi key l j hjn (fun p hp hpj => HL.out p hp hpj) (fun hp => HH.out j hp (Nat.le_refl _))
      have HAJ : Hid (A = j) := HA0.out.symm.trans HA.out
      by_cases hlt2 : j < l.length
      · have i3 : (j : Int) < (l.length : Int) := by omega
        have i4 : decide ((j : Int) < (l.length : Int)) = true := decide_eq_true i3
        have HCM := Lib.hid (HC.out _ HD.out j hlt2)
        have HV : Hid (TH = decide (pcmp wi key (l[j]).win (l[j]).key = 0)) := HT0.out.symm.trans (by
          unfold thereS
          rw [HA.out, List.drop_eq_getElem_cons hlt2, pcmp_zero]; rfl)
        generalize pcmp wi key (l[j]).win (l[j]).key = C at *
        cases q1 : (C == 0)
        · have HV2 : Hid (TH = false) := HV.out.trans q1
          clear HV
          go_wp2_with (first | (go_at_call 49; refine HCM.out.mono ?_; rintro e w1 ⟨rfl, n1⟩))
          exact bodyPost_ret (v := .tuple #[.int .i64 j, .bool false]) (by simp [results, Try.results48, go_sem]) rfl ⟨by rw [HAJ.out, HV2.out], HD.out.trans (n1.mono HD.out.size)⟩
        · have HV2 : Hid (TH = true) := HV.out.trans q1
          clear HV
          go_wp2_with (first | (go_at_call 49; refine HCM.out.mono ?_; rintro e w1 ⟨rfl, n1⟩))
          exact bodyPost_ret (v := .tuple #[.int .i64 j, .bool true]) (by simp [results, Try.results48, go_sem]) rfl ⟨by rw [HAJ.out, HV2.out], HD.out.trans (n1.mono HD.out.size)⟩
      · have i3 : ¬ (j : Int) < (l.length : Int) := by omega
        have i4 : decide ((j : Int) < (l.length : Int)) = false := decide_eq_false i3
        have HV : Hid (TH = false) := HT0.out.symm.trans (by
          unfold thereS
          rw [HA.out, List.drop_of_length_le (by omega)])
        go_wp2_with fail
        exact bodyPost_ret (v := .tuple #[.int .i64 j, .bool false]) (by simp [results, Try.results48, go_sem]) rfl ⟨by rw [HAJ.out, HV.out], HD.out⟩

set_option maxRecDepth 100000 in
set_option maxHeartbeats 4000000 in
theorem find_any (v : Value) (l : List Ent) (wi : Int) (key : ByteArray) (w : World) (h : SRow w v l) (hn : l.length ≤ 1000000) (hp : l.Pairwise fun a b => elt a b = true) :
    Calls Try.prog 26 #[v, .int .i64 wi, .string key] w fun e w' => e = .returned (.tuple #[.int .i64 (aheadN wi key l), .bool (thereS wi key l)]) ∧ Below w.heap.size w w' := by
  have HSR := Lib.hid (fun W (d : Below w.heap.size w W) => h.on d)
  obtain ⟨a, c, rfl, -, -⟩ := h.at
  have d0 := Lib.hid (aBelow w (.cells #[.slice a l.length c] 22))
  have HG := Lib.hid (fun W => against_any wi key W)
  have HC := Lib.hid (fun b8 b3 W H => sortFind_any b8 b3 (.slice a l.length c) wi key l hn hp W H)
  generalize thereS wi key l = TH at *
  generalize aheadN wi key l = A at *
  clear h
  have hsf := fun (a : Addr) (c : Array Value) (w : World) => run_store Try.prog w a (.func (.func 56) #[] c) .plain rfl
  go_enter Try.func26, Try.ntmps26
  go_wp2_with (first | (go_at_call 33; refine (HG.out _).mono ?_; rintro e w1 ⟨⟨f, rfl, B0, B1, rfl, g0, g1⟩, n1⟩; have c3 := keepC n1 (show (w.alloc (.cells #[.slice a l.length c] 22)).cell? ⟨w.heap.size, 0, none⟩ = some (.slice a l.length c) by simp) (by simp); have c3' := cell_kept1 c3 (.cells #[.func (.func 56) #[] #[.pointer (some ⟨B0, 0, none⟩), .pointer (some ⟨B1, 0, none⟩)]] 69)))
  have d2 := Lib.hid ((d0.out.trans (n1.mono d0.out.size)).alloc (Nat.le_trans d0.out.size n1.size) (.cells #[.func (.func 56) #[] #[.pointer (some ⟨B0, 0, none⟩), .pointer (some ⟨B1, 0, none⟩)]] 69))
  refine (HC.out w1.heap.size w.heap.size _ ⟨_, by simp, ⟨B0, B1, rfl, cell_kept1 g0 _, cell_kept1 g1 _⟩, c3', HSR.out _ d2.out⟩).mono ?_
  rintro e w2 ⟨rfl, n2⟩
  go_wp2_with fail
  exact bodyPost_ret (v := .tuple #[.int .i64 A, .bool TH]) (by simp [results, Try.results26, go_sem]) rfl ⟨rfl, d2.out.trans (n2.mono d2.out.size)⟩
end Go.Proofs.Ythiofbohllmfbaa.Sh
