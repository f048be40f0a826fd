/- The law ShardWrites: a walk. -/
import Derived.Test.YthiofbohllmfbaaSL4
namespace Go.Proofs.Ythiofbohllmfbaa.Sh
open Go Go.RowKit Go.Sort Go.Lib Cl Ce Ch

def selC : Bool → Cell → Cell → Cell
  | true, a, _ => a
  | false, _, b => b
def optN : Bool → Itm → List Itm
  | true, _ => []
  | false, x => [x]
def selB : Bool → Bool → Bool → Bool
  | true, a, _ => a
  | false, _, b => b
theorem wasC_sel {w : Int} {k : ByteArray} {l : List Itm} {n : Nat} (hn : n < l.length) : wasC w k (l.take (n + 1)) = selC (hitI w k l[n]) (l[n]).c (wasC w k (l.take n)) := by
  rw [wasC_next hn]; cases hitI w k l[n] <;> rfl
theorem restI_opt {w : Int} {k : ByteArray} {l : List Itm} {n : Nat} (hn : n < l.length) : restI w k (l.take (n + 1)) = restI w k (l.take n) ++ optN (hitI w k l[n]) l[n] := by
  rw [restI_next hn]; cases hitI w k l[n] <;> rfl
theorem foundB_sel {w : Int} {k : ByteArray} {d : Cell} {l : List Itm} {n : Nat} (hn : n < l.length) : foundB w k d (l.take (n + 1)) = selB (hitI w k l[n]) (eqC (l[n]).c d) (foundB w k d (l.take n)) := by
  rw [foundB_next hn]; cases hitI w k l[n] <;> rfl
theorem hitI_no1 {w p : Int} {k q : ByteArray} {c : Cell} (h : ¬ p = w) : hitI w k ⟨p, q, c⟩ = false := by unfold hitI; rw [decide_eq_false h]; rfl
theorem hitI_no2 {w p : Int} {k q : ByteArray} {c : Cell} (h : (q.toList == k.toList) = false) : hitI w k ⟨p, q, c⟩ = false := by unfold hitI; rw [← beq_ba, h, Bool.and_false]
theorem hitI_yes {w p : Int} {k q : ByteArray} {c : Cell} (h1 : p = w) (h : (q.toList == k.toList) = true) : hitI w k ⟨p, q, c⟩ = true := by unfold hitI; rw [← beq_ba, h, decide_eq_true h1]; rfl
theorem boxB {w w1 : World} {B b : Nat} {c : Cell} (h : Ce.Box w b c ∧ Ce.Free w b) (hb : b < B) (n : Below B w w1) : Ce.Box w1 b c ∧ Ce.Free w1 b := by
  obtain ⟨⟨h0, h1, h2, h3, h4⟩, ⟨f0, f1, f2, f3, f4⟩⟩ := h
  refine ⟨⟨?_, ?_, ?_, ?_, ?_⟩, ⟨?_, ?_, ?_, ?_, ?_⟩⟩
  · rw [n.cell (p := ⟨b, 0, none⟩) hb]; exact h0
  · rw [n.cell (p := ⟨b, 1, none⟩) hb]; exact h1
  · rw [n.cell (p := ⟨b, 2, none⟩) hb]; exact h2
  · rw [n.cell (p := ⟨b, 3, none⟩) hb]; exact h3
  · rw [n.cell (p := ⟨b, 4, none⟩) hb]; exact h4
  · rw [n.frozen (p := ⟨b, 0, none⟩) hb]; exact f0
  · rw [n.frozen (p := ⟨b, 1, none⟩) hb]; exact f1
  · rw [n.frozen (p := ⟨b, 2, none⟩) hb]; exact f2
  · rw [n.frozen (p := ⟨b, 3, none⟩) hb]; exact f3
  · rw [n.frozen (p := ⟨b, 4, none⟩) hb]; exact f4
theorem own_put {w : World} {B T n : Nat} {v : Value} {xs : List Value} {b : Nat} (h : w.ownsRow B T 7 v n xs) (hb : b < B) (d : Cell) : (put w b d).ownsRow B T 7 v n xs := by
  have hne : ∀ i, v.ownBlock ≠ some (⟨b, i, none⟩ : Addr).block := fun i e => by have := (h.lt b e).1; omega
  unfold put
  exact ownsRow_setCell_other (ownsRow_setCell_other (ownsRow_setCell_other (ownsRow_setCell_other (ownsRow_setCell_other h (hne 0) _) (hne 1) _) (hne 2) _) (hne 3) _) (hne 4) _
theorem put_size (w : World) (b : Nat) (d : Cell) : (put w b d).heap.size = w.heap.size := by unfold put; simp

/-- An item's cell, a cell's box, a write's value, as they lie. -/
def CS (b o : Nat) (z0 z1 : Int) (z2 : Bool) (z3 z4 : Int) (bb : Nat) (m0 m1 : Int) (m2 : Bool) (m3 m4 : Int) (wb : Nat) (x3 : Int) (w w' : World) : Prop :=
  w'.cell? ⟨b, o + 2, none⟩ = some (.int .i64 z0) ∧ w'.cell? ⟨b, o + 3, none⟩ = some (.int .i64 z1) ∧ w'.cell? ⟨b, o + 4, none⟩ = some (.bool z2) ∧ w'.cell? ⟨b, o + 5, none⟩ = some (.int .i64 z3) ∧ w'.cell? ⟨b, o + 6, none⟩ = some (.int .i64 z4) ∧ w'.cell? ⟨bb, 0, none⟩ = some (.int .i64 m0) ∧ w'.cell? ⟨bb, 1, none⟩ = some (.int .i64 m1) ∧ w'.cell? ⟨bb, 2, none⟩ = some (.bool m2) ∧ w'.cell? ⟨bb, 3, none⟩ = some (.int .i64 m3) ∧ w'.cell? ⟨bb, 4, none⟩ = some (.int .i64 m4) ∧ w'.cell? ⟨wb, 3, none⟩ = some (.int .i64 x3) ∧ Below w.heap.size w w'
theorem CS.on {b o : Nat} {z0 z1 : Int} {z2 : Bool} {z3 z4 : Int} {bb : Nat} {m0 m1 : Int} {m2 : Bool} {m3 m4 : Int} {wb : Nat} {x3 : Int} {w w1 w2 : World} (h : CS b o z0 z1 z2 z3 z4 bb m0 m1 m2 m3 m4 wb x3 w w1) (n : Below w1.heap.size w1 w2) : CS b o z0 z1 z2 z3 z4 bb m0 m1 m2 m3 m4 wb x3 w w2 := by
  obtain ⟨h0, h1, h2, h3, h4, h5, h6, h7, h8, h9, ha, hb⟩ := h
  have k : ∀ {q : Nat} {i : Nat} {u : Value}, w1.cell? ⟨q, i, none⟩ = some u → w2.cell? ⟨q, i, none⟩ = some u := fun h => keepC n h (World.block_lt_of_cell? _ _ h)
  exact ⟨k h0, k h1, k h2, k h3, k h4, k h5, k h6, k h7, k h8, k h9, k ha, hb.trans (n.mono hb.size)⟩

set_option maxRecDepth 100000 in
set_option maxHeartbeats 16000000 in
theorem writes_walk (O : Own11) (v : Value) (l : List Ent) (x0 x1 : Int) (x2 : ByteArray) (x3 s : Int) (w : World) (h : SRow w v l) (hl : ∀ e ∈ l, ok64 e.win ∧ ∀ y ∈ e.vs, okV y) (h0 : ok64 x0) (h1 : ok64 x1) (h3 : ok64 x3) :
    Calls Try.prog 7 #[.agg #[v], .agg #[.int .i64 x0, .int .i64 x1, .string x2, .int .i64 x3], .int .i64 s] w fun e w' => e = .returned (.bool true) ∧ Below w.heap.size w w' := by
  have HAl := Lib.hid (fun W => alive_any O W)
  obtain ⟨ji, hji, hz0, hz1, hz2⟩ := info54
  have HJ := Lib.hid (And.intro hji (And.intro hz0 (And.intro hz1 hz2)))
  clear hji hz0 hz1 hz2
  have HS0 := Lib.hid h
  obtain ⟨a, c, rfl, hc, -⟩ := h.at
  have na := aBelow2 w (.cells #[.slice a l.length c] 24) (.cells #[.int .i64 x0, .int .i64 x1, .string x2, .int .i64 x3] 26)
  have hsa := HS0.out.on na
  have hab : AB w.heap.size (w.heap.size + 1) (.slice a l.length c) x0 x1 x2 x3 ((w.alloc (.cells #[.slice a l.length c] 24)).alloc (.cells #[.int .i64 x0, .int .i64 x1, .string x2, .int .i64 x3] 26)) := ⟨cell_kept (by simp) _, by simp, by simp, by simp, by simp⟩
  clear h hc
  go_enter Try.func7, Try.ntmps7
  go_wp2_with fail
  generalize (w.alloc (.cells #[.slice a l.length c] 24)).alloc (.cells #[.int .i64 x0, .int .i64 x1, .string x2, .int .i64 x3] 26) = wa at *
  refine (HAl.out _).mono ?_
  rintro e w1 ⟨rfl, n1⟩
  have A1 := Lib.hid (hab.on n1)
  have S1 := Lib.hid (hsa.on n1)
  have d1 := na.trans (n1.mono na.size)
  obtain ⟨b0, y0, y1, y2, y3⟩ := A1.out
  clear HAl hab hsa na n1 HS0
  go_wp2_with fail
  refine (great_any _ l _ S1.out).mono ?_
  rintro e w2 ⟨rfl, n2⟩
  have A2 := Lib.hid (A1.out.on n2)
  have S2 := Lib.hid (S1.out.on n2)
  have d2 := Lib.hid (d1.trans (n2.mono d1.size))
  obtain ⟨b0, y0, y1, y2, y3⟩ := A2.out
  clear n2 d1 A1 S1
  cases hg : greatS l
  · have hok := okS_of hg hl
    by_cases hk : 300 < x2.size
    · have q1 : decide ((300 : Int) < (x2.size : Int)) = true := decide_eq_true (by omega)
      have q2 : (300 : Int) < (x2.size : Int) := by omega
      go_wp2_with fail
      go_ret
      exact ⟨rfl, d2.out⟩
    · have q1 : decide ((300 : Int) < (x2.size : Int)) = false := decide_eq_false (by omega)
      have q2 : ¬ (300 : Int) < (x2.size : Int) := by omega
      have HOK := Lib.hid hok
      have HX : Hid (okW ⟨x0, x1, x2, x3⟩) := ⟨h0, h1, h3, by show x2.size ≤ 1000; omega⟩
      have HK1 := fun W u (g : SRow W u l) => O.apply u l ⟨x0, x1, x2, x3⟩ W g HOK.out HX.out
      have hsp := applyS_spec l ⟨x0, x1, x2, x3⟩
      have hlen := applyS_len l ⟨x0, x1, x2, x3⟩ 100 (fun e he => ((greatS_not hg).2 e he).1)
      have hok2 := applyS_ok2 (l := l) (x := ⟨x0, x1, x2, x3⟩) (fun e he => ⟨(hl e he).1, ((greatS_not hg).2 e he).2, (hl e he).2⟩) ⟨h0, h1, h3, by show x2.size ≤ 300; omega⟩
      have HVO := Lib.hid (fun e he => (hl e he).2)
      have hll := (greatS_not hg).1
      have HLV := Lib.hid ((greatS_not hg).2)
      obtain ⟨R, hR⟩ : ∃ R, applyS l ⟨x0, x1, x2, x3⟩ = R := ⟨_, rfl⟩
      have hwf : R.2 = 0 → _ := fun hC => writes_facts (l := l) (x := ⟨x0, x1, x2, x3⟩) (t := R.1) (by rw [hR]; exact Prod.ext rfl hC)
      have hcc : (R.1 = [] ∧ R.2 = 9) ∨ R.2 = 0 := by
        rcases hsp with q | ⟨_, P, M, S, old, _, q, _⟩
        · rw [hR] at q; rw [q]; exact Or.inl ⟨rfl, rfl⟩
        · rw [hR] at q; rw [q]; exact Or.inr rfl
      rw [hR] at HK1 hlen hok2
      obtain ⟨R, C⟩ := R
      dsimp only at HK1 hlen hwf hcc hok2
      unfold wriV at HK1
      have HK1 := Lib.hid HK1
      have HLEN := Lib.hid hlen
      have HOK2 := Lib.hid hok2
      have HWF := Lib.hid hwf
      have H3 := Lib.hid h3
      clear hk hok hg hl hR hlen h0 h1 h3 HX hsp hwf hok2
      go_wp2_with fail
      refine (HK1.out _ _ S2.out).mono ?_
      rintro e w4 ⟨⟨v4, rfl, r4⟩, n4⟩
      have A4 := Lib.hid (A2.out.on n4)
      have S4 := Lib.hid (S2.out.on n4)
      have T4 := Lib.hid r4
      have d4 := Lib.hid (d2.out.trans (n4.mono d2.out.size))
      obtain ⟨a4, c4, rfl, -, -⟩ := r4.at
      clear n4 r4 A2 S2 d2 b0 y0 y1 y2 y3 HK1
      have nb := aBelow w4 (.cells #[.slice a4 R.length c4] 24)
      have X7 : (w4.alloc (.cells #[.slice a4 R.length c4] 24)).cell? ⟨w4.heap.size, 0, none⟩ = some (.slice a4 R.length c4) := by simp
      have A6 := Lib.hid (A4.out.on nb)
      have S6 := Lib.hid (S4.out.on nb)
      have T6 := Lib.hid (T4.out.on nb)
      have d6 := Lib.hid (d4.out.trans (nb.mono d4.out.size))
      obtain ⟨b0, y0, y1, y2, y3⟩ := A6.out
      clear nb A4 S4 T4 d4
      rcases hcc with ⟨rfl, rfl⟩ | rfl
      · go_wp2_with fail
        go_ret
        exact ⟨rfl, d6.out⟩
      · obtain ⟨hsr, hsz, hlt, hge⟩ := HWF.out rfl
        have HSR := Lib.hid hsr
        have HGE := Lib.hid hge
        have HLT := Lib.hid hlt
        clear HWF hsr hge hlt
        obtain ⟨IA, HIA⟩ : ∃ I, Hid (readS l s [] = I) := ⟨_, rfl⟩
        obtain ⟨IB, HIB⟩ : ∃ I, Hid (readS R s [] = I) := ⟨_, rfl⟩
        have hia : IA.length ≤ 100 := by rw [← HIA.out]; exact Nat.le_trans (readS_len _ _ _) hll
        have hib : IB.length ≤ 101 := by rw [← HIB.out]; have := readS_len R s []; have := HLEN.out.1; omega
        have HOR : Hid (okS R) := ⟨by have := HLEN.out.1; omega, fun e he => ⟨by have := HLEN.out.2 e he; omega, by have := (HOK2.out e he).2.1; omega, (HOK2.out e he).1, (HOK2.out e he).2.2⟩⟩
        obtain ⟨Z, HZs⟩ : ∃ Z, Hid (sizeS l = Z) := ⟨_, rfl⟩
        have hZ : Z ≤ 10000 := by rw [← HZs.out]; have := sizeS_le (l := l) (n := 100) (fun e he => (HLV.out e he).1); omega
        rw [HZs.out] at hsz
        have HSZ := Lib.hid hsz
        have i1 : IntKind.i64.wrap ((Z : Int) + 1) = (Z : Int) + 1 := by rw [IntKind.wrap_i64]; omega
        have q5 : (((Z : Int) + 1) == ((Z : Int) + 1)) = true := by simp
        clear hsz
        go_wp2_with fail
        generalize w4.alloc (.cells #[.slice a4 R.length c4] 24) = w6 at *
        generalize w4.heap.size = b7 at *
        have K1 := fun W (n : Below w6.heap.size w6 W) => O.read _ _ l s [] W (S6.out.on n) (GRow.nil W) HOK.out (by decide)
        have K2 := fun W (n : Below w6.heap.size w6 W) => O.read _ _ R s [] W (T6.out.on n) (GRow.nil W) HOR.out (by decide)
        rw [HIA.out] at K1
        rw [HIB.out] at K2
        have K1 := Lib.hid K1
        have K2 := Lib.hid K2
        have hS0 : Hid (B4 w.heap.size b7 b7 b7 (.slice a l.length c) (.slice a4 R.length c4) (.slice a4 R.length c4) (.slice a4 R.length c4) w6 w6.drew) := ⟨b0, X7, X7, X7, (Below.refl _ _).drew⟩
        have hS := hS0.out
        unfold B4 at hS
        clear b0 y0 y1 y2 y3 X7 hS0
        by_cases hs : s < x0
        · have q7 : decide (s < x0) = true := decide_eq_true hs
          have hI : IB = IA := by rw [← HIB.out, ← HIA.out]; exact HLT.out s hs
          subst hI
          clear HLT HGE HIA HIB
          go_region_held3 (fun w' => w'.cell? ⟨w.heap.size, 0, none⟩ = some (.slice a l.length c) ∧ w'.cell? ⟨b7, 0, none⟩ = some (.slice a4 R.length c4) ∧ w'.cell? ⟨b7, 0, none⟩ = some (.slice a4 R.length c4) ∧ w'.cell? ⟨b7, 0, none⟩ = some (.slice a4 R.length c4) ∧ Below w6.heap.size w6 w') (first | exact hS | assumption) (first
            | (go_at_call_of 16 (Value.agg #[Value.slice a l.length c]); first | (refine (K1.out _ h1.2.2.2.2).mono ?_; rintro e wp ⟨⟨vp, rfl, rp⟩, np⟩; have h2 := B4.on (b1 := w.heap.size) (b2 := b7) (b3 := b7) (b4 := b7) (v1 := .slice a l.length c) (v2 := .slice a4 R.length c4) (v3 := .slice a4 R.length c4) (v4 := .slice a4 R.length c4) (w := w6) h1 np; unfold B4 at h2; have RA := Lib.hid rp; have RB := Lib.hid (RB.out.on np); obtain ⟨ax, cx, rfl, -, -⟩ := rp; clear np) | (refine (K1.out _ hS.2.2.2.2).mono ?_; rintro e wp ⟨⟨vp, rfl, rp⟩, np⟩; have h1 := B4.on (b1 := w.heap.size) (b2 := b7) (b3 := b7) (b4 := b7) (v1 := .slice a l.length c) (v2 := .slice a4 R.length c4) (v3 := .slice a4 R.length c4) (v4 := .slice a4 R.length c4) (w := w6) hS np; unfold B4 at h1; have RA := Lib.hid rp; obtain ⟨ax, cx, rfl, -, -⟩ := rp; clear np))
            | (go_at_call_of 16 (Value.agg #[Value.slice a4 R.length c4]); first | (refine (K2.out _ h1.2.2.2.2).mono ?_; rintro e wp ⟨⟨vp, rfl, rp⟩, np⟩; have h2 := B4.on (b1 := w.heap.size) (b2 := b7) (b3 := b7) (b4 := b7) (v1 := .slice a l.length c) (v2 := .slice a4 R.length c4) (v3 := .slice a4 R.length c4) (v4 := .slice a4 R.length c4) (w := w6) h1 np; unfold B4 at h2; have RB := Lib.hid rp; have RA := Lib.hid (RA.out.on np); obtain ⟨ay, cy, rfl, -, -⟩ := rp; clear np) | (refine (K2.out _ hS.2.2.2.2).mono ?_; rintro e wp ⟨⟨vp, rfl, rp⟩, np⟩; have h1 := B4.on (b1 := w.heap.size) (b2 := b7) (b3 := b7) (b4 := b7) (v1 := .slice a l.length c) (v2 := .slice a4 R.length c4) (v3 := .slice a4 R.length c4) (v4 := .slice a4 R.length c4) (w := w6) hS np; unfold B4 at h1; have RB := Lib.hid rp; obtain ⟨ay, cy, rfl, -, -⟩ := rp; clear np))
            | fail)
          all_goals
            have n8 := h2.2.2.2.2
            have A8 := Lib.hid (A6.out.on n8)
            have S8 := Lib.hid (S6.out.on n8)
            have T8 := Lib.hid (T6.out.on n8)
            have d8 := Lib.hid (d6.out.trans (n8.mono d6.out.size))
            have X7 := h2.2.1
            clear hS h1 h2 n8 A6 S6 T6 d6 K1 K2
            generalize wp = w8 at *
            obtain ⟨b0, y0, y1, y2, y3⟩ := A8.out
            have K3 := fun W (n : Below w8.heap.size w8 W) => refItems_any _ _ IB IB W (RA.out.on n) (RB.out.on n) (by omega)
            have K4 := fun W (n : Below w8.heap.size w8 W) => O.size _ R W (T8.out.on n) HOR.out
            have K5 := fun W (n : Below w8.heap.size w8 W) => O.size _ l W (S8.out.on n) HOK.out
            rw [(sameI_true IB IB).2 rfl] at K3
            rw [HSZ.out, show ((Z + 1 : Nat) : Int) = (Z : Int) + 1 from rfl] at K4
            rw [HZs.out] at K5
            have K3 := Lib.hid K3
            have K4 := Lib.hid K4
            have K5 := Lib.hid K5
            have HZ := Lib.hid d8.out.size
            have hS0 : Hid (B4 w.heap.size b7 b7 b7 (.slice a l.length c) (.slice a4 R.length c4) (.slice a4 R.length c4) (.slice a4 R.length c4) w8 w8.drew) := ⟨b0, X7, X7, X7, (Below.refl _ _).drew⟩
            have hS := hS0.out
            unfold B4 at hS
            go_wp2_with fail
            clear b0 y0 y1 y2 y3 X7 hS0
            go_region_held3 (fun w' => w'.cell? ⟨w.heap.size, 0, none⟩ = some (.slice a l.length c) ∧ w'.cell? ⟨b7, 0, none⟩ = some (.slice a4 R.length c4) ∧ w'.cell? ⟨b7, 0, none⟩ = some (.slice a4 R.length c4) ∧ w'.cell? ⟨b7, 0, none⟩ = some (.slice a4 R.length c4) ∧ Below w8.heap.size w8 w') (first | exact hS | assumption) (first
              | (go_at_call 17; refine (K3.out _ hS.2.2.2.2).mono ?_; rintro e wq ⟨rfl, np⟩; have h1 := B4.on (b1 := w.heap.size) (b2 := b7) (b3 := b7) (b4 := b7) (v1 := .slice a l.length c) (v2 := .slice a4 R.length c4) (v3 := .slice a4 R.length c4) (v4 := .slice a4 R.length c4) (w := w8) hS np; unfold B4 at h1; clear np)
              | (go_at_call_of 19 (Value.agg #[Value.slice a4 R.length c4]); first | (refine (K4.out _ h2.2.2.2.2).mono ?_; rintro e wq ⟨rfl, np⟩; have h3 := B4.on (b1 := w.heap.size) (b2 := b7) (b3 := b7) (b4 := b7) (v1 := .slice a l.length c) (v2 := .slice a4 R.length c4) (v3 := .slice a4 R.length c4) (v4 := .slice a4 R.length c4) (w := w8) h2 np; unfold B4 at h3; clear np) | (refine (K4.out _ h1.2.2.2.2).mono ?_; rintro e wq ⟨rfl, np⟩; have h2 := B4.on (b1 := w.heap.size) (b2 := b7) (b3 := b7) (b4 := b7) (v1 := .slice a l.length c) (v2 := .slice a4 R.length c4) (v3 := .slice a4 R.length c4) (v4 := .slice a4 R.length c4) (w := w8) h1 np; unfold B4 at h2; clear np))
              | (go_at_call_of 19 (Value.agg #[Value.slice a l.length c]); first | (refine (K5.out _ h2.2.2.2.2).mono ?_; rintro e wq ⟨rfl, np⟩; have h3 := B4.on (b1 := w.heap.size) (b2 := b7) (b3 := b7) (b4 := b7) (v1 := .slice a l.length c) (v2 := .slice a4 R.length c4) (v3 := .slice a4 R.length c4) (v4 := .slice a4 R.length c4) (w := w8) h2 np; unfold B4 at h3; clear np) | (refine (K5.out _ h1.2.2.2.2).mono ?_; rintro e wq ⟨rfl, np⟩; have h2 := B4.on (b1 := w.heap.size) (b2 := b7) (b3 := b7) (b4 := b7) (v1 := .slice a l.length c) (v2 := .slice a4 R.length c4) (v3 := .slice a4 R.length c4) (v4 := .slice a4 R.length c4) (w := w8) h1 np; unfold B4 at h2; clear np))
              | fail)
            all_goals
              have dF := Lib.hid (d8.out.trans (h3.2.2.2.2.mono HZ.out))
              clear hS h1 h2 h3
              go_wp2_with fail
              go_ret
              exact ⟨rfl, dF.out⟩
        · have q7 : decide (s < x0) = false := decide_eq_false hs
          obtain ⟨hf, hr, hd⟩ := HGE.out s (by omega)
          rw [HIA.out, HIB.out] at hf hr hd
          have HFO := Lib.hid hf
          have HRE := Lib.hid hr
          have HDE := Lib.hid hd
          have HCK : Hid (∀ i ∈ IA, okC i.c) := by rw [← HIA.out]; exact readS_ok HVO.out s []
          clear HLT HGE HIA HIB hf hr hd
          go_region_held3 (fun w' => w'.cell? ⟨w.heap.size, 0, none⟩ = some (.slice a l.length c) ∧ w'.cell? ⟨b7, 0, none⟩ = some (.slice a4 R.length c4) ∧ w'.cell? ⟨b7, 0, none⟩ = some (.slice a4 R.length c4) ∧ w'.cell? ⟨b7, 0, none⟩ = some (.slice a4 R.length c4) ∧ Below w6.heap.size w6 w') (first | exact hS | assumption) (first
            | (go_at_call_of 16 (Value.agg #[Value.slice a l.length c]); first | (refine (K1.out _ h1.2.2.2.2).mono ?_; rintro e wp ⟨⟨vp, rfl, rp⟩, np⟩; have h2 := B4.on (b1 := w.heap.size) (b2 := b7) (b3 := b7) (b4 := b7) (v1 := .slice a l.length c) (v2 := .slice a4 R.length c4) (v3 := .slice a4 R.length c4) (v4 := .slice a4 R.length c4) (w := w6) h1 np; unfold B4 at h2; have RA := Lib.hid rp; have RB := Lib.hid (RB.out.on np); obtain ⟨ax, cx, rfl, -, -⟩ := rp; clear np) | (refine (K1.out _ hS.2.2.2.2).mono ?_; rintro e wp ⟨⟨vp, rfl, rp⟩, np⟩; have h1 := B4.on (b1 := w.heap.size) (b2 := b7) (b3 := b7) (b4 := b7) (v1 := .slice a l.length c) (v2 := .slice a4 R.length c4) (v3 := .slice a4 R.length c4) (v4 := .slice a4 R.length c4) (w := w6) hS np; unfold B4 at h1; have RA := Lib.hid rp; obtain ⟨ax, cx, rfl, -, -⟩ := rp; clear np))
            | (go_at_call_of 16 (Value.agg #[Value.slice a4 R.length c4]); first | (refine (K2.out _ h1.2.2.2.2).mono ?_; rintro e wp ⟨⟨vp, rfl, rp⟩, np⟩; have h2 := B4.on (b1 := w.heap.size) (b2 := b7) (b3 := b7) (b4 := b7) (v1 := .slice a l.length c) (v2 := .slice a4 R.length c4) (v3 := .slice a4 R.length c4) (v4 := .slice a4 R.length c4) (w := w6) h1 np; unfold B4 at h2; have RB := Lib.hid rp; have RA := Lib.hid (RA.out.on np); obtain ⟨ay, cy, rfl, -, -⟩ := rp; clear np) | (refine (K2.out _ hS.2.2.2.2).mono ?_; rintro e wp ⟨⟨vp, rfl, rp⟩, np⟩; have h1 := B4.on (b1 := w.heap.size) (b2 := b7) (b3 := b7) (b4 := b7) (v1 := .slice a l.length c) (v2 := .slice a4 R.length c4) (v3 := .slice a4 R.length c4) (v4 := .slice a4 R.length c4) (w := w6) hS np; unfold B4 at h1; have RB := Lib.hid rp; obtain ⟨ay, cy, rfl, -, -⟩ := rp; clear np))
            | fail)
          all_goals
            have n8 := h2.2.2.2.2
            have A8 := Lib.hid (A6.out.on n8)
            have S8 := Lib.hid (S6.out.on n8)
            have T8 := Lib.hid (T6.out.on n8)
            have d8 := Lib.hid (d6.out.trans (n8.mono d6.out.size))
            have X7 := h2.2.1
            clear hS h1 h2 n8 A6 S6 T6 d6 K1 K2
            generalize wp = w8 at *
            obtain ⟨b0, y0, y1, y2, y3⟩ := A8.out
            have HAt := Lib.hid (show IMAt w8 ax IA by obtain ⟨q1, q2, q3, _, q4⟩ := RA.out; injection q3 with z1 z2 z3; subst z1; exact q4)
            have HBt := Lib.hid (show IMAt w8 ay IB by obtain ⟨q1, q2, q3, _, q4⟩ := RB.out; injection q3 with z1 z2 z3; subst z1; exact q4)
            have HX8 := Lib.hid X7
            have BX := Lib.hid (And.intro (Ce.Box.new w8 w8.heap.size zero rfl) (Ce.Free.new w8 w8.heap.size zero rfl))
            have d9 := Lib.hid (aBelow w8 (.cells #[.int .i64 zero.cnt, .int .i64 zero.sn, .bool zero.so, .int .i64 zero.mn, .int .i64 zero.mx] 52))
            have hz9 : w8.heap.size + 1 ≤ (w8.alloc (.cells #[.int .i64 zero.cnt, .int .i64 zero.sn, .bool zero.so, .int .i64 zero.mn, .int .i64 zero.mx] 52)).heap.size := by simp
            go_wp2_with fail
            clear RA RB X7
            simp only [zero] at d9 hz9
            generalize hw9 : w8.alloc (.cells #[.int .i64 0, .int .i64 0, .bool false, .int .i64 0, .int .i64 0] 52) = w9 at *
            have BX : Hid (Ce.Box w9 w8.heap.size zero ∧ Ce.Free w9 w8.heap.size) := by rw [← hw9]; exact BX.out
            clear hw9
            go_loopw [12, 13] (fun rest i wr => ∃ k : Nat, k ≤ IA.length ∧ i = .int .i64 k ∧ Hid (wr.ownsRow (w8.heap.size + 1) 54 7 rest (restI x1 x2 (IA.take k)).length (flatG itmC (restI x1 x2 (IA.take k)))) ∧ Hid (Ce.Box wr w8.heap.size (wasC x1 x2 (IA.take k)) ∧ Ce.Free wr w8.heap.size) ∧ Hid (Below w8.heap.size w8 wr ∧ w8.heap.size + 1 ≤ wr.heap.size)) (fun _ i _ => IA.length - (intOf i).toNat)
            case atStart => exact ⟨0, Nat.zero_le _, rfl, ownG_nil _ _ _, BX, d9.out, hz9⟩
            case round =>
              obtain ⟨k, hk, rfl, HO, HBX, HD⟩ := hrel
              have A9 := Lib.hid (A8.out.on HD.out.1)
              obtain ⟨b0, y0, y1, y2, y3⟩ := A9.out
              have hwz := HD.out.2
              by_cases hlt : k < IA.length
              · obtain ⟨b, o, rfl, hb, hL⟩ := HAt.out (ne_of_lt hlt)
                obtain ⟨e1, e2, e3, e4, e5, e6, e7⟩ := im_at (hL.on hb HD.out.1) k hlt
                have i2 : (k : Int) < (IA.length : Int) := by omega
                have i3 : (0 : Int) ≤ (k : Int) := by omega
                have HWN := Lib.hid (wasC_sel (w := x1) (k := x2) hlt)
                have HRN := Lib.hid (restI_opt (w := x1) (k := x2) hlt)
                have hrl : (restI x1 x2 (IA.take k)).length ≤ 100 := Nat.le_trans (restI_len _ _ _) (by rw [List.length_take]; omega)
                generalize IA[k] = x at *
                obtain ⟨p1, p2, ⟨z0, z1, z2, z3, z4⟩⟩ := x
                simp only at e1 e2 e3 e4 e5 e6 e7 HWN
                generalize wasC x1 x2 (IA.take k) = WC at *
                generalize restI x1 x2 (IA.take k) = RI at *
                clear hL hb HAt
                by_cases c1 : p1 = x1
                rotate_left
                · have q8 : (p1 == x1) = false := by simp [c1]
                  have HW2 := Lib.hid (HWN.out.trans (by rw [hitI_no1 c1]; rfl : _ = WC))
                  have HR2 := Lib.hid (HRN.out.trans (by rw [hitI_no1 c1]; rfl : _ = RI ++ [⟨p1, p2, ⟨z0, z1, z2, z3, z4⟩⟩]))
                  clear HWN HRN
                  go_wp2_with fail
                  go_quiet (fail)
                  have nQ := (below_drewN (Below.refl wr.heap.size wr) nq).alloc (Nat.le_refl _) (.cells #[.int .i64 p1, .string p2, .int .i64 z0, .int .i64 z1, .bool z2, .int .i64 z3, .int .i64 z4] 54)
                  have HOB := Lib.hid (own_on HO.out nQ)
                  have HNI := Lib.hid (newI (wr.drewN nq) p1 p2 ⟨z0, z1, z2, z3, z4⟩)
                  have HZB := Lib.hid (Nat.le_trans hwz nQ.size)
                  have HBQ := Lib.hid (And.intro (HBX.out.1.on nQ) (HBX.out.2.on HBX.out.1.lt nQ))
                  have HDQ := Lib.hid (HD.out.1.trans (nQ.mono (Nat.le_trans (Nat.le_succ _) hwz)))
                  have hzq : (wr.drewN nq).heap.size = wr.heap.size := rfl
                  rw [hzq] at HNI
                  clear nQ hzq
                  go_wp2_with (first | (at_builtin; refine wpList_append_own _ rfl _ _ 36 rfl (w8.heap.size + 1) 54 ji (.agg #[.int .i64 0, .string ⟨#[]⟩, .int .i64 0, .int .i64 0, .bool false, .int .i64 0, .int .i64 0]) 7 64 Try.underlying36 HJ.out.1 HJ.out.2.1 HJ.out.2.2.1 HJ.out.2.2.2 rfl (by decide) _ _ _ rfl HOB.out ⟨wr.heap.size, 0, none⟩ 1 1 (itmC ⟨p1, p2, ⟨z0, z1, z2, z3, z4⟩⟩) rfl rfl HNI.out (itmC_one _) (by unfold maxLen; omega) (by omega) HZB.out ?_; intro v' w6' hown hgrow hnil))
                  have HO3 := Lib.hid (ownG_next hown)
                  have HB3 := Lib.hid (boxB HBQ.out (Nat.lt_succ_self _) ((Below.refl (w8.heap.size + 1) _).grown hgrow HZB.out (fun j hj => (HOB.out.lt j hj).1)))
                  have HD3 := Lib.hid (And.intro (HDQ.out.grown hgrow (Nat.le_trans (Nat.le_succ _) HZB.out) (fun j hj => Nat.le_trans (Nat.le_succ _) (HOB.out.lt j hj).1)) (Nat.le_trans HZB.out hgrow.size))
                  clear hown hgrow hnil
                  exact ⟨⟨k + 1, by omega, by go_num, by rw [HR2.out]; exact HO3.out, by rw [HW2.out]; exact HB3.out, HD3.out⟩, by simp [intOf]; omega⟩
                · have q8 : (p1 == x1) = true := by simp [c1]
                  cases c2 : (p2.toList == x2.toList)
                  · have HW2 := Lib.hid (HWN.out.trans (by rw [hitI_no2 c2]; rfl : _ = WC))
                    have HR2 := Lib.hid (HRN.out.trans (by rw [hitI_no2 c2]; rfl : _ = RI ++ [⟨p1, p2, ⟨z0, z1, z2, z3, z4⟩⟩]))
                    clear HWN HRN c1
                    go_wp2_with fail
                    go_quiet (fail)
                    have nQ := (below_drewN (Below.refl wr.heap.size wr) nq).alloc (Nat.le_refl _) (.cells #[.int .i64 p1, .string p2, .int .i64 z0, .int .i64 z1, .bool z2, .int .i64 z3, .int .i64 z4] 54)
                    have HOB := Lib.hid (own_on HO.out nQ)
                    have HNI := Lib.hid (newI (wr.drewN nq) p1 p2 ⟨z0, z1, z2, z3, z4⟩)
                    have HZB := Lib.hid (Nat.le_trans hwz nQ.size)
                    have HBQ := Lib.hid (And.intro (HBX.out.1.on nQ) (HBX.out.2.on HBX.out.1.lt nQ))
                    have HDQ := Lib.hid (HD.out.1.trans (nQ.mono (Nat.le_trans (Nat.le_succ _) hwz)))
                    have hzq : (wr.drewN nq).heap.size = wr.heap.size := rfl
                    rw [hzq] at HNI
                    clear nQ hzq
                    go_wp2_with (first | (at_builtin; refine wpList_append_own _ rfl _ _ 36 rfl (w8.heap.size + 1) 54 ji (.agg #[.int .i64 0, .string ⟨#[]⟩, .int .i64 0, .int .i64 0, .bool false, .int .i64 0, .int .i64 0]) 7 64 Try.underlying36 HJ.out.1 HJ.out.2.1 HJ.out.2.2.1 HJ.out.2.2.2 rfl (by decide) _ _ _ rfl HOB.out ⟨wr.heap.size, 0, none⟩ 1 1 (itmC ⟨p1, p2, ⟨z0, z1, z2, z3, z4⟩⟩) rfl rfl HNI.out (itmC_one _) (by unfold maxLen; omega) (by omega) HZB.out ?_; intro v' w6' hown hgrow hnil))
                    have HO3 := Lib.hid (ownG_next hown)
                    have HB3 := Lib.hid (boxB HBQ.out (Nat.lt_succ_self _) ((Below.refl (w8.heap.size + 1) _).grown hgrow HZB.out (fun j hj => (HOB.out.lt j hj).1)))
                    have HD3 := Lib.hid (And.intro (HDQ.out.grown hgrow (Nat.le_trans (Nat.le_succ _) HZB.out) (fun j hj => Nat.le_trans (Nat.le_succ _) (HOB.out.lt j hj).1)) (Nat.le_trans HZB.out hgrow.size))
                    clear hown hgrow hnil
                    exact ⟨⟨k + 1, by omega, by go_num, by rw [HR2.out]; exact HO3.out, by rw [HW2.out]; exact HB3.out, HD3.out⟩, by simp [intOf]; omega⟩
                  · have HW2 := Lib.hid (HWN.out.trans (by rw [hitI_yes c1 c2]; rfl : _ = (⟨z0, z1, z2, z3, z4⟩ : Cell)))
                    have HR2 := Lib.hid (HRN.out.trans (by rw [hitI_yes c1 c2]; exact List.append_nil RI : _ = RI))
                    have C1 := Lib.hid c1
                    clear HWN HRN c1
                    go_wp2_with fail
                    go_quiet (fail)
                    have nQ := below_drewN (Below.refl wr.heap.size wr) nq
                    have HBQ := And.intro (HBX.out.1.on nQ) (HBX.out.2.on HBX.out.1.lt nQ)
                    have HPB := Lib.hid (HBQ.1.set ⟨z0, z1, z2, z3, z4⟩ HBQ.2)
                    have HPO := Lib.hid (own_put (own_on HO.out nQ) (Nat.lt_succ_self _) (⟨z0, z1, z2, z3, z4⟩ : Cell))
                    have HPD := Lib.hid (And.intro (put_below (⟨z0, z1, z2, z3, z4⟩ : Cell) (HD.out.1.trans (nQ.mono (Nat.le_trans (Nat.le_succ _) hwz))) (Nat.le_refl _)) (show w8.heap.size + 1 ≤ (put (wr.drewN nq) w8.heap.size ⟨z0, z1, z2, z3, z4⟩).heap.size by rw [put_size]; exact hwz))
                    obtain ⟨⟨a0, a1, a2, a3', a4'⟩, ⟨f0, f1, f2, f3, f4⟩⟩ := HBQ
                    clear nQ
                    go_wp2_with fail
                    exact ⟨⟨k + 1, by omega, by go_num, by rw [HR2.out]; exact HPO.out, by rw [HW2.out]; exact ⟨HPB.out.1, HPB.out.2.1⟩, HPD.out⟩, by simp [intOf]; omega⟩
              · have i2 : ¬ (k : Int) < (IA.length : Int) := by omega
                have ht : IA.take k = IA := List.take_of_length_le (by omega)
                rw [ht] at HO HBX
                clear ht
                go_wp2_with fail
                have HBX2 := HBX
                have D10 := Lib.hid HD.out.1
                have A10 := Lib.hid (A8.out.on D10.out)
                have S10 := Lib.hid (S8.out.on D10.out)
                have T10 := Lib.hid (T8.out.on D10.out)
                have d10 := Lib.hid (d8.out.trans (D10.out.mono d8.out.size))
                have HX10 := Lib.hid (keepC D10.out HX8.out (World.block_lt_of_cell? _ _ HX8.out))
                have HWO : Hid (okC (wasC x1 x2 IA)) := wasC_ok HCK.out
                have HFC0 := fun W => refFold_any (wasC x1 x2 IA) x3 W HWO.out H3.out
                have HRI := Lib.hid (show IRow wr _ (restI x1 x2 IA) from own_ir HO.out)
                obtain ⟨D, hDD⟩ : ∃ D, fold (wasC x1 x2 IA) x3 = D := ⟨_, rfl⟩
                rw [hDD] at HFC0 HFO HDE
                obtain ⟨MC, hMC⟩ : ∃ M, wasC x1 x2 IA = M := ⟨_, rfl⟩
                rw [hMC] at HFC0 HBX2
                obtain ⟨m0, m1, m2, m3, m4⟩ := MC
                have HFC := Lib.hid HFC0
                clear hDD hMC HFC0 HWO HO HBX HD b0 y0 y1 y2 y3
                generalize wr = w10 at *
                obtain ⟨ae, ce, rfl, hce, hle⟩ := HRI.out
                go_loopw [14, 15, 16] (fun other f i wr => ∃ k : Nat, k ≤ IB.length ∧ i = .int .i64 k ∧ f = .bool (foundB x1 x2 D (IB.take k)) ∧ Hid (wr.ownsRow w10.heap.size 54 7 other (restI x1 x2 (IB.take k)).length (flatG itmC (restI x1 x2 (IB.take k)))) ∧ Hid (Below w10.heap.size w10 wr)) (fun _ _ i _ => IB.length - (intOf i).toNat)
                case atStart => exact ⟨0, Nat.zero_le _, rfl, rfl, ownG_nil _ _ _, Below.refl _ _⟩
                case round =>
                  obtain ⟨k, hk, rfl, rfl, HO, HD2⟩ := hrel
                  have hwz := HD2.out.size
                  have A9 := Lib.hid (A10.out.on HD2.out)
                  obtain ⟨b0, y0, y1, y2, y3⟩ := A9.out
                  obtain ⟨a0, a1, a2, a3', a4'⟩ := HBX2.out.1.on HD2.out
                  by_cases hlt : k < IB.length
                  · obtain ⟨b, o, rfl, hb, hL⟩ := HBt.out (ne_of_lt hlt)
                    obtain ⟨e1, e2, e3, e4, e5, e6, e7⟩ := im_at ((hL.on hb D10.out).on (Nat.lt_of_lt_of_le hb D10.out.size) HD2.out) k hlt
                    have i2 : (k : Int) < (IB.length : Int) := by omega
                    have i3 : (0 : Int) ≤ (k : Int) := by omega
                    have HFN := Lib.hid (foundB_sel (w := x1) (k := x2) (d := D) hlt)
                    have HRN := Lib.hid (restI_opt (w := x1) (k := x2) hlt)
                    have HMEM : Hid (IB[k] ∈ IB) := List.getElem_mem hlt
                    have hrl : (restI x1 x2 (IB.take k)).length ≤ 101 := Nat.le_trans (restI_len _ _ _) (by rw [List.length_take]; omega)
                    generalize IB[k] = x at *
                    obtain ⟨p1, p2, ⟨z0, z1, z2, z3, z4⟩⟩ := x
                    simp only at e1 e2 e3 e4 e5 e6 e7 HFN
                    generalize foundB x1 x2 D (IB.take k) = FB at *
                    generalize restI x1 x2 (IB.take k) = RI at *
                    clear hL hb HBt
                    by_cases c1 : p1 = x1
                    rotate_left
                    · have q8 : (p1 == x1) = false := by simp [c1]
                      have HF2 := Lib.hid (HFN.out.trans (by rw [hitI_no1 c1]; rfl : _ = FB))
                      have HR2 := Lib.hid (HRN.out.trans (by rw [hitI_no1 c1]; rfl : _ = RI ++ [⟨p1, p2, ⟨z0, z1, z2, z3, z4⟩⟩]))
                      clear HFN HRN
                      go_wp2_with fail
                      go_quiet (fail)
                      have nQ := (below_drewN (Below.refl wr.heap.size wr) nq).alloc (Nat.le_refl _) (.cells #[.int .i64 p1, .string p2, .int .i64 z0, .int .i64 z1, .bool z2, .int .i64 z3, .int .i64 z4] 54)
                      have HOB := Lib.hid (own_on HO.out nQ)
                      have HNI := Lib.hid (newI (wr.drewN nq) p1 p2 ⟨z0, z1, z2, z3, z4⟩)
                      have HZB := Lib.hid (Nat.le_trans hwz nQ.size)
                      have HDQ := Lib.hid (HD2.out.trans (nQ.mono hwz))
                      have hzq : (wr.drewN nq).heap.size = wr.heap.size := rfl
                      rw [hzq] at HNI
                      clear nQ hzq
                      go_wp2_with (first | (at_builtin; refine wpList_append_own _ rfl _ _ 36 rfl w10.heap.size 54 ji (.agg #[.int .i64 0, .string ⟨#[]⟩, .int .i64 0, .int .i64 0, .bool false, .int .i64 0, .int .i64 0]) 7 64 Try.underlying36 HJ.out.1 HJ.out.2.1 HJ.out.2.2.1 HJ.out.2.2.2 rfl (by decide) _ _ _ rfl HOB.out ⟨wr.heap.size, 0, none⟩ 1 1 (itmC ⟨p1, p2, ⟨z0, z1, z2, z3, z4⟩⟩) rfl rfl HNI.out (itmC_one _) (by unfold maxLen; omega) (by omega) HZB.out ?_; intro v' w6' hown hgrow hnil))
                      have HO3 := Lib.hid (ownG_next hown)
                      have HD3 := Lib.hid (HDQ.out.grown hgrow HZB.out (fun j hj => (HOB.out.lt j hj).1))
                      clear hown hgrow hnil
                      exact ⟨⟨k + 1, by omega, by go_num, by rw [HF2.out], by rw [HR2.out]; exact HO3.out, HD3.out⟩, by simp [intOf]; omega⟩
                    · have q8 : (p1 == x1) = true := by simp [c1]
                      cases c2 : (p2.toList == x2.toList)
                      · have HF2 := Lib.hid (HFN.out.trans (by rw [hitI_no2 c2]; rfl : _ = FB))
                        have HR2 := Lib.hid (HRN.out.trans (by rw [hitI_no2 c2]; rfl : _ = RI ++ [⟨p1, p2, ⟨z0, z1, z2, z3, z4⟩⟩]))
                        clear HFN HRN c1
                        go_wp2_with fail
                        go_quiet (fail)
                        have nQ := (below_drewN (Below.refl wr.heap.size wr) nq).alloc (Nat.le_refl _) (.cells #[.int .i64 p1, .string p2, .int .i64 z0, .int .i64 z1, .bool z2, .int .i64 z3, .int .i64 z4] 54)
                        have HOB := Lib.hid (own_on HO.out nQ)
                        have HNI := Lib.hid (newI (wr.drewN nq) p1 p2 ⟨z0, z1, z2, z3, z4⟩)
                        have HZB := Lib.hid (Nat.le_trans hwz nQ.size)
                        have HDQ := Lib.hid (HD2.out.trans (nQ.mono hwz))
                        have hzq : (wr.drewN nq).heap.size = wr.heap.size := rfl
                        rw [hzq] at HNI
                        clear nQ hzq
                        go_wp2_with (first | (at_builtin; refine wpList_append_own _ rfl _ _ 36 rfl w10.heap.size 54 ji (.agg #[.int .i64 0, .string ⟨#[]⟩, .int .i64 0, .int .i64 0, .bool false, .int .i64 0, .int .i64 0]) 7 64 Try.underlying36 HJ.out.1 HJ.out.2.1 HJ.out.2.2.1 HJ.out.2.2.2 rfl (by decide) _ _ _ rfl HOB.out ⟨wr.heap.size, 0, none⟩ 1 1 (itmC ⟨p1, p2, ⟨z0, z1, z2, z3, z4⟩⟩) rfl rfl HNI.out (itmC_one _) (by unfold maxLen; omega) (by omega) HZB.out ?_; intro v' w6' hown hgrow hnil))
                        have HO3 := Lib.hid (ownG_next hown)
                        have HD3 := Lib.hid (HDQ.out.grown hgrow HZB.out (fun j hj => (HOB.out.lt j hj).1))
                        clear hown hgrow hnil
                        exact ⟨⟨k + 1, by omega, by go_num, by rw [HF2.out], by rw [HR2.out]; exact HO3.out, HD3.out⟩, by simp [intOf]; omega⟩
                      · have hD : (⟨z0, z1, z2, z3, z4⟩ : Cell) = D := HDE.out _ HMEM.out (hitI_yes c1 c2)
                        have HF2 := Lib.hid (HFN.out.trans (by rw [hitI_yes c1 c2, hD]; exact (eqC_true D D).2 rfl : _ = true))
                        have HR2 := Lib.hid (HRN.out.trans (by rw [hitI_yes c1 c2]; exact List.append_nil RI : _ = RI))
                        subst hD
                        have C1 := Lib.hid c1
                        clear HFN HRN c1 HMEM HDE
                        have t0 : (z0 == z0) = true := by simp
                        have t1 : (z1 == z1) = true := by simp
                        have t2 : (z2 == z2) = true := by simp
                        have t3 : (z3 == z3) = true := by simp
                        have t4 : (z4 == z4) = true := by simp
                        go_wp2_with fail
                        go_quiet (fail)
                        have nQ := below_drewN (Below.refl wr.heap.size wr) nq
                        have hS0 : Hid (CS b (o + k * 7) z0 z1 z2 z3 z4 w8.heap.size m0 m1 m2 m3 m4 (w.heap.size + 1) x3 (wr.drewN nq) (wr.drewN nq).drew) := ⟨e3, e4, e5, e6, e7, a0, a1, a2, a3', a4', y3, (Below.refl _ _).drew⟩
                        have hS := hS0.out
                        unfold CS at hS
                        have HOQ := Lib.hid (own_on HO.out nQ)
                        have HDQ := Lib.hid (HD2.out.trans (nQ.mono hwz))
                        have HZQ : Hid (w10.heap.size ≤ (wr.drewN nq).heap.size) := hwz
                        go_wp2_with fail
                        clear e1 e2 e3 e4 e5 e6 e7 a0 a1 a2 a3' a4' b0 y0 y1 y2 y3 nQ hS0
                        generalize wr.drewN nq = wv at *
                        go_region_held3 (fun w' => w'.cell? ⟨b, o + k * 7 + 2, none⟩ = some (.int .i64 z0) ∧ w'.cell? ⟨b, o + k * 7 + 3, none⟩ = some (.int .i64 z1) ∧ w'.cell? ⟨b, o + k * 7 + 4, none⟩ = some (.bool z2) ∧ w'.cell? ⟨b, o + k * 7 + 5, none⟩ = some (.int .i64 z3) ∧ w'.cell? ⟨b, o + k * 7 + 6, none⟩ = some (.int .i64 z4) ∧ w'.cell? ⟨w8.heap.size, 0, none⟩ = some (.int .i64 m0) ∧ w'.cell? ⟨w8.heap.size, 1, none⟩ = some (.int .i64 m1) ∧ w'.cell? ⟨w8.heap.size, 2, none⟩ = some (.bool m2) ∧ w'.cell? ⟨w8.heap.size, 3, none⟩ = some (.int .i64 m3) ∧ w'.cell? ⟨w8.heap.size, 4, none⟩ = some (.int .i64 m4) ∧ w'.cell? ⟨w.heap.size + 1, 3, none⟩ = some (.int .i64 x3) ∧ Below wv.heap.size wv w') (first | exact hS | assumption) (first
                          | (go_at_call 24; refine (HFC.out _).mono ?_; rintro e wq ⟨rfl, np⟩; have h1 := CS.on (b := b) (o := o + k * 7) (z0 := z0) (z1 := z1) (z2 := z2) (z3 := z3) (z4 := z4) (bb := w8.heap.size) (m0 := m0) (m1 := m1) (m2 := m2) (m3 := m3) (m4 := m4) (wb := w.heap.size + 1) (x3 := x3) (w := wv) hS np; unfold CS at h1; clear np)
                          | fail)
                        all_goals
                          have nn := h1.2.2.2.2.2.2.2.2.2.2.2
                          have HO3 := Lib.hid (own_on HOQ.out nn)
                          have HD3 := Lib.hid (HDQ.out.trans (nn.mono HZQ.out))
                          clear hS h1 nn
                          go_wp2_with fail
                          exact ⟨⟨k + 1, by omega, by go_num, by rw [HF2.out], by rw [HR2.out]; exact HO3.out, HD3.out⟩, by simp [intOf]; omega⟩
                  · have i2 : ¬ (k : Int) < (IB.length : Int) := by omega
                    have ht : IB.take k = IB := List.take_of_length_le (by omega)
                    rw [ht] at HO ⊢
                    rw [HFO.out]
                    have HRJ := Lib.hid (show IRow wr _ (restI x1 x2 IB) from own_ir HO.out)
                    rw [← HRE.out] at HRJ
                    have HRI2 : Hid (IRow wr (.slice ae (restI x1 x2 IA).length ce) (restI x1 x2 IA)) := GRow.on ⟨ae, ce, rfl, hce, hle⟩ HD2.out
                    obtain ⟨af, cf, rfl, -, -⟩ := HRJ.out
                    have hrl : (restI x1 x2 IA).length ≤ 100 := Nat.le_trans (restI_len _ _ _) hia
                    have S8 := Lib.hid (S10.out.on HD2.out)
                    have T8 := Lib.hid (T10.out.on HD2.out)
                    have d8 := Lib.hid (d10.out.trans (HD2.out.mono d10.out.size))
                    have X7 := keepC HD2.out HX10.out (World.block_lt_of_cell? _ _ HX10.out)
                    clear ht a0 a1 a2 a3' a4' HO hle
                    generalize restI x1 x2 IA = RI at *
                    have K3 := fun W (n : Below wr.heap.size wr W) => refItems_any _ _ RI RI W (HRI2.out.on n) (HRJ.out.on n) (by omega)
                    have K4 := fun W (n : Below wr.heap.size wr W) => O.size _ R W (T8.out.on n) HOR.out
                    have K5 := fun W (n : Below wr.heap.size wr W) => O.size _ l W (S8.out.on n) HOK.out
                    have K6 := fun W (n : Below wr.heap.size wr W) => refRightS_any _ R W (T8.out.on n) (by have := HLEN.out.1; omega) (fun e he => by have := HLEN.out.2 e he; omega)
                    rw [(sameI_true RI RI).2 rfl] at K3
                    rw [HSZ.out, show ((Z + 1 : Nat) : Int) = (Z : Int) + 1 from rfl] at K4
                    rw [HZs.out] at K5
                    rw [HSR.out] at K6
                    have K3 := Lib.hid K3
                    have K4 := Lib.hid K4
                    have K5 := Lib.hid K5
                    have K6 := Lib.hid K6
                    have HZ := Lib.hid d8.out.size
                    have hS0 : Hid (B4 w.heap.size b7 b7 b7 (.slice a l.length c) (.slice a4 R.length c4) (.slice a4 R.length c4) (.slice a4 R.length c4) wr wr.drew) := ⟨b0, X7, X7, X7, (Below.refl _ _).drew⟩
                    have hS := hS0.out
                    unfold B4 at hS
                    go_wp2_with fail
                    clear b0 y0 y1 y2 y3 X7 hS0
                    go_region_held3 (fun w' => w'.cell? ⟨w.heap.size, 0, none⟩ = some (.slice a l.length c) ∧ w'.cell? ⟨b7, 0, none⟩ = some (.slice a4 R.length c4) ∧ w'.cell? ⟨b7, 0, none⟩ = some (.slice a4 R.length c4) ∧ w'.cell? ⟨b7, 0, none⟩ = some (.slice a4 R.length c4) ∧ Below wr.heap.size wr w') (first | exact hS | assumption) (first
                      | (go_at_call 17; refine (K3.out _ hS.2.2.2.2).mono ?_; rintro e wq ⟨rfl, np⟩; have h1 := B4.on (b1 := w.heap.size) (b2 := b7) (b3 := b7) (b4 := b7) (v1 := .slice a l.length c) (v2 := .slice a4 R.length c4) (v3 := .slice a4 R.length c4) (v4 := .slice a4 R.length c4) (w := wr) hS np; unfold B4 at h1; clear np)
                      | (go_at_call_of 19 (Value.agg #[Value.slice a4 R.length c4]); first | (refine (K4.out _ h2.2.2.2.2).mono ?_; rintro e wq ⟨rfl, np⟩; have h3 := B4.on (b1 := w.heap.size) (b2 := b7) (b3 := b7) (b4 := b7) (v1 := .slice a l.length c) (v2 := .slice a4 R.length c4) (v3 := .slice a4 R.length c4) (v4 := .slice a4 R.length c4) (w := wr) h2 np; unfold B4 at h3; clear np) | (refine (K4.out _ h1.2.2.2.2).mono ?_; rintro e wq ⟨rfl, np⟩; have h2 := B4.on (b1 := w.heap.size) (b2 := b7) (b3 := b7) (b4 := b7) (v1 := .slice a l.length c) (v2 := .slice a4 R.length c4) (v3 := .slice a4 R.length c4) (v4 := .slice a4 R.length c4) (w := wr) h1 np; unfold B4 at h2; clear np))
                      | (go_at_call_of 19 (Value.agg #[Value.slice a l.length c]); first | (refine (K5.out _ h2.2.2.2.2).mono ?_; rintro e wq ⟨rfl, np⟩; have h3 := B4.on (b1 := w.heap.size) (b2 := b7) (b3 := b7) (b4 := b7) (v1 := .slice a l.length c) (v2 := .slice a4 R.length c4) (v3 := .slice a4 R.length c4) (v4 := .slice a4 R.length c4) (w := wr) h2 np; unfold B4 at h3; clear np) | (refine (K5.out _ h1.2.2.2.2).mono ?_; rintro e wq ⟨rfl, np⟩; have h2 := B4.on (b1 := w.heap.size) (b2 := b7) (b3 := b7) (b4 := b7) (v1 := .slice a l.length c) (v2 := .slice a4 R.length c4) (v3 := .slice a4 R.length c4) (v4 := .slice a4 R.length c4) (w := wr) h1 np; unfold B4 at h2; clear np))
                      | (go_at_call 15; refine (K6.out _ h3.2.2.2.2).mono ?_; rintro e wq ⟨rfl, np⟩; have h4 := B4.on (b1 := w.heap.size) (b2 := b7) (b3 := b7) (b4 := b7) (v1 := .slice a l.length c) (v2 := .slice a4 R.length c4) (v3 := .slice a4 R.length c4) (v4 := .slice a4 R.length c4) (w := wr) h3 np; unfold B4 at h4; clear np)
                      | fail)
                    all_goals
                      have dF := Lib.hid (d8.out.trans (h4.2.2.2.2.mono HZ.out))
                      clear hS h1 h2 h3 h4
                      go_wp2_with fail
                      go_ret
                      exact ⟨rfl, dF.out⟩
  · go_wp2_with fail
    go_ret
    exact ⟨rfl, d2.out⟩
end Go.Proofs.Ythiofbohllmfbaa.Sh
