/- A part's row: walks of both. -/
import Derived.Test.YtehgpibngalhfaaGreatDoorD6
namespace Go.Proofs.YtehgpibngalhfaaGreatDoor.Rw
open Go Go.RowKit Go.Sort Go.Lib Tg Pk Ky Qy

set_option maxRecDepth 100000 in
theorem ssplit_any (s : ByteArray) (c : UInt8) (w : World) (hE : Env w) (hs : s.size < 4294967281) :
    Calls Tryz.prog 40 #[.string s, .string ⟨#[c]⟩] w fun e w' => (∃ v, e = .returned v ∧ TxRow w' v (partsB c s)) ∧ Below w.heap.size w w' := by
  obtain ⟨m, hm⟩ := hE
  have hC := Tryz.strings_Split s ⟨#[c]⟩ m w hs hm (Nat.le_refl 1)
  rw [split_parts, count_parts] at hC
  refine hC.mono ?_
  rintro e w' ⟨rfl, rfl⟩
  refine ⟨⟨_, rfl, ⟨_, _, rfl, Nat.le_refl _, fun _ => ⟨w.heap.size, 0, rfl, by simp, ?_⟩⟩⟩, aBelow _ _⟩
  intro j x hx
  have h := cell_of_row (w.alloc (.cells ((partsB c s).map Value.string).toArray 9)) w.heap.size (0 + j) ((partsB c s).map Value.string).toArray 9 (0, 0) (heap_alloc_new _ _)
  rw [h, Nat.zero_add]
  simp [hx]

/-- What three parts tell. -/
def row3 (a b c : ByteArray) : Row × Int :=
  if (Sat.read a.data.toList).2 = 0 then (if grpE b = 0 then (if (Sat.parseL c.data.toList).2.2 = 0 then (⟨(Sat.read a.data.toList).1, b, (Sat.parseL c.data.toList).1, (Sat.parseL c.data.toList).2.1⟩, 0) else (zrow, (Sat.parseL c.data.toList).2.2)) else (zrow, grpE b)) else (zrow, (Sat.read a.data.toList).2)
theorem rread_row3 {s a b c : ByteArray} (h : partsB 124 s = [a, b, c]) : rread s.data.toList = row3 a b c := by
  have h2 : Word.parts 124 s.data.toList = [a.data.toList, b.data.toList, c.data.toList] := by
    have := congrArg (List.map (fun x : ByteArray => x.data.toList)) h
    unfold partsB at this
    rw [map_ba] at this
    exact this
  rw [rread_three h2]
  unfold row3
  rw [bb_eq]
theorem rread_not3 {s : ByteArray} (h : (partsB 124 s).length ≠ 3) : rread s.data.toList = (zrow, 2) := by
  apply rread_else
  unfold partsB at h
  rwa [List.length_map] at h
theorem part_le {c : UInt8} {s x : ByteArray} (h : x ∈ partsB c s) : x.size ≤ s.size := by
  have hx : x.data.toList ∈ Word.parts c s.data.toList := by
    unfold partsB at h
    obtain ⟨y, hy, rfl⟩ := List.mem_map.1 h
    rw [ba_list]; exact hy
  have e := Word.join_parts c s.data.toList
  have key : ∀ (xs : List (List UInt8)) (y : List UInt8), y ∈ xs → y.length ≤ (Lib.join xs [c]).length := by
    intro xs
    induction xs with
    | nil => intro y hy; simp at hy
    | cons z r ih =>
      intro y hy
      cases r with
      | nil => simp at hy; subst hy; simp [Lib.join]
      | cons u t =>
        have e2 : Lib.join (z :: u :: t) [c] = z ++ [c] ++ Lib.join (u :: t) [c] := by simp [Lib.join]
        rw [e2]
        simp only [List.length_append]
        rcases List.mem_cons.1 hy with rfl | hy
        · omega
        · have := ih y hy; omega
  have := key _ _ hx
  rw [e] at this
  have q1 : x.data.toList.length = x.size := by rw [Array.length_toList]; rfl
  have q2 : s.data.toList.length = s.size := by rw [Array.length_toList]; rfl
  omega
theorem three_of {l : List ByteArray} (h : l.length = 3) : ∃ a b c, l = [a, b, c] := by
  match l, h with
  | [a, b, c], _ => exact ⟨a, b, c, rfl⟩

theorem keepF' {W w2 : World} {b off : Nat} (hb : Below W.heap.size W w2) (h : W.frozen? ⟨b, off, none⟩ = false) (hB : b < W.heap.size) : w2.frozen? ⟨b, off, none⟩ = false := by
  rw [hb.frozen (p := ⟨b, off, none⟩) hB]; exact h
/-- A row's box that may be written. -/
def RX (w : World) (b : Nat) (r : Row) : Prop :=
  (w.cell? ⟨b, 0, none⟩ = some (.int .i64 r.win) ∧ w.cell? ⟨b, 1, none⟩ = some (.string r.grp) ∧ w.cell? ⟨b, 2, none⟩ = some (.int .i64 r.n) ∧ w.cell? ⟨b, 3, none⟩ = some (.bool r.ov)) ∧
  (w.frozen? ⟨b, 0, none⟩ = false ∧ w.frozen? ⟨b, 1, none⟩ = false ∧ w.frozen? ⟨b, 2, none⟩ = false ∧ w.frozen? ⟨b, 3, none⟩ = false)
theorem RX.lt {w : World} {b : Nat} {r : Row} (h : RX w b r) : b < w.heap.size := World.block_lt_of_cell? _ _ h.1.1
theorem RX.on {w w1 : World} {b : Nat} {r : Row} (h : RX w b r) (n : Below w.heap.size w w1) : RX w1 b r :=
  have z := h.lt
  ⟨⟨keepC n h.1.1 z, keepC n h.1.2.1 z, keepC n h.1.2.2.1 z, keepC n h.1.2.2.2 z⟩, ⟨keepF' n h.2.1 z, keepF' n h.2.2.1 z, keepF' n h.2.2.2.1 z, keepF' n h.2.2.2.2 z⟩⟩
theorem RX.new (W : World) (b : Nat) (r : Row) (hb : b = W.heap.size) : RX (W.alloc (.cells #[.int .i64 r.win, .string r.grp, .int .i64 r.n, .bool r.ov] 45)) b r := by
  subst hb
  exact ⟨⟨by simp, by simp, by simp, by simp⟩, ⟨by simp [go_sem], by simp [go_sem], by simp [go_sem], by simp [go_sem]⟩⟩

set_option maxRecDepth 100000 in
set_option maxHeartbeats 2000000 in
theorem read3 (B : Nat) (s a b c : ByteArray) (w : World) (hE : Env w) (hF : St.Env B w) (hs : s.size ≤ 900) (h3 : partsB 124 s = [a, b, c]) :
    Calls Tryz.prog 76 #[.string s] w fun e w' => e = .returned (.tuple #[rowV (row3 a b c).1, .int .i64 (row3 a b c).2]) ∧ Below w.heap.size w w' := by
  have HSP := fun W (hW : Env W) => ssplit_any s 124 W hW (by omega)
  rw [h3] at HSP
  have HSP := Lib.hid HSP
  have za : a.size ≤ 900 := by have := part_le (c := 124) (s := s) (x := a) (by rw [h3]; simp); omega
  have zb : b.size ≤ 900 := by have := part_le (c := 124) (s := s) (x := b) (by rw [h3]; simp); omega
  have zc : c.size ≤ 900 := by have := part_le (c := 124) (s := s) (x := c) (by rw [h3]; simp); omega
  have HE := Lib.hid hE
  have HF := Lib.hid hF
  clear hE hF
  have HR := fun W (hW : St.Env B W) => St.read_any B a W hW (by omega)
  have HG := fun W (hW : Env W) => checkGroup_any b W hW zb
  have HC := fun W (hW : St.Env B W) => St.parse_any B c W hW (by omega)
  unfold row3
  generalize Sat.read a.data.toList = R at *
  generalize grpE b = G at *
  generalize Sat.parseL c.data.toList = V at *
  obtain ⟨R1, R2⟩ := R
  obtain ⟨V1, V2, V3⟩ := V
  simp only at HR HC ⊢
  have HR := Lib.hid HR
  have HG := Lib.hid HG
  have HC := Lib.hid HC
  clear h3 za zb zc
  by_cases h_R2 : R2 = 0
  · rw [if_pos h_R2]
    subst h_R2
    by_cases h_G : G = 0
    · rw [if_pos h_G]
      subst h_G
      by_cases h_V3 : V3 = 0
      · rw [if_pos h_V3]
        subst h_V3
        go_enter Tryz.func76, Tryz.ntmps76
        go_wp2_with fail
        have n0 := aBelow w (.cells #[.int .i64 0, .string ⟨#[]⟩, .int .i64 0, .bool false] 45)
        refine (HSP.out _ (HE.out.go n0)).mono ?_
        rintro e w1 ⟨⟨v, rfl, hv⟩, n1⟩
        have X := (RX.new w w.heap.size zrow rfl).on n1
        have n1 := n0.trans (n1.mono n0.size)
        have zz : w.heap.size < w1.heap.size := X.lt
        clear n0
        obtain ⟨ad, cp, rfl, hcp, hl⟩ := hv
        obtain ⟨bk, of, rfl, hb, hL⟩ := hl (by simp)
        have p0 : w1.cell? ⟨bk, of, none⟩ = some (.string a) := hL 0 a rfl
        have p1 := hL 1 b rfl
        have p2 := hL 2 c rfl
        have hlen : [a, b, c].length = 3 := rfl
        rw [hlen] at hcp ⊢
        clear HSP hL hl hlen
        obtain ⟨⟨x0, x1, x2, x3⟩, f0, f1, f2, f3⟩ := id X
        go_wp2_with fail
        refine (HR.out _ (HF.out.go n1)).mono ?_
        rintro e w2 ⟨rfl, n2⟩
        clear x0 x1 x2 x3 f0 f1 f2 f3
        have X := X.on n2
        obtain ⟨⟨x0, x1, x2, x3⟩, f0, f1, f2, f3⟩ := id X
        have d2 := n1.trans (n2.mono n1.size)
        have p1 := keepC n2 p1 hb
        have p2 := keepC n2 p2 hb
        have hb := Nat.lt_of_lt_of_le hb n2.size
        clear n1 n2
        clear p0
        go_wp2_with fail
        refine (HG.out _ (HE.out.go d2)).mono ?_
        rintro e w3 ⟨rfl, n3⟩
        clear x0 x1 x2 x3 f0 f1 f2 f3
        have X := X.on n3
        obtain ⟨⟨x0, x1, x2, x3⟩, f0, f1, f2, f3⟩ := id X
        have d3 := d2.trans (n3.mono d2.size)
        have p1 := keepC n3 p1 hb
        have p2 := keepC n3 p2 hb
        have hb := Nat.lt_of_lt_of_le hb n3.size
        clear d2 n3
        go_wp2_with fail
        refine (HC.out _ (HF.out.go d3)).mono ?_
        rintro e w4 ⟨rfl, n4⟩
        clear x0 x1 x2 x3 f0 f1 f2 f3
        have X := X.on n4
        obtain ⟨⟨x0, x1, x2, x3⟩, f0, f1, f2, f3⟩ := id X
        have d4 := d3.trans (n4.mono d3.size)
        have p1 := keepC n4 p1 hb
        have hb := Nat.lt_of_lt_of_le hb n4.size
        have n5 := aBelow w4 (.cells #[.int .i64 V1, .bool V2] 43)
        have X := X.on n5
        have p1 := keepC n5 p1 hb
        clear x0 x1 x2 x3 f0 f1 f2 f3
        obtain ⟨⟨x0, x1, x2, x3⟩, f0, f1, f2, f3⟩ := id X
        have d4 := d4.trans (n5.mono d4.size)
        clear d3 n4 p2 n5
        go_wp2_with fail
        go_region_with (fail)
        all_goals (try go_wp2_with fail)
        all_goals refine bodyPost_ret (v := .tuple #[.agg #[.int .i64 R1, .string b, .int .i64 V1, .bool V2], .int .i64 0]) (by simp [results, Tryz.results76, go_sem, x0, x1, x2, x3]) rfl ⟨rfl, ?_⟩
        all_goals exact (((d4.drew.setCell (p := ⟨w.heap.size, 0, none⟩) (Nat.le_refl _) _).setCell (p := ⟨w.heap.size, 1, none⟩) (Nat.le_refl _) _).setCell (p := ⟨w.heap.size, 2, none⟩) (Nat.le_refl _) _).setCell (p := ⟨w.heap.size, 3, none⟩) (Nat.le_refl _) _
      · rw [if_neg h_V3]
        have q_V3 : (V3 != 0) = true := by simp [h_V3]
        have r_V3 : (V3 == 0) = false := by simp [h_V3]
        go_enter Tryz.func76, Tryz.ntmps76
        go_wp2_with fail
        have n0 := aBelow w (.cells #[.int .i64 0, .string ⟨#[]⟩, .int .i64 0, .bool false] 45)
        refine (HSP.out _ (HE.out.go n0)).mono ?_
        rintro e w1 ⟨⟨v, rfl, hv⟩, n1⟩
        have X := (RX.new w w.heap.size zrow rfl).on n1
        have n1 := n0.trans (n1.mono n0.size)
        have zz : w.heap.size < w1.heap.size := X.lt
        clear n0
        obtain ⟨ad, cp, rfl, hcp, hl⟩ := hv
        obtain ⟨bk, of, rfl, hb, hL⟩ := hl (by simp)
        have p0 : w1.cell? ⟨bk, of, none⟩ = some (.string a) := hL 0 a rfl
        have p1 := hL 1 b rfl
        have p2 := hL 2 c rfl
        have hlen : [a, b, c].length = 3 := rfl
        rw [hlen] at hcp ⊢
        clear HSP hL hl hlen
        obtain ⟨⟨x0, x1, x2, x3⟩, f0, f1, f2, f3⟩ := id X
        go_wp2_with fail
        refine (HR.out _ (HF.out.go n1)).mono ?_
        rintro e w2 ⟨rfl, n2⟩
        clear x0 x1 x2 x3 f0 f1 f2 f3
        have X := X.on n2
        obtain ⟨⟨x0, x1, x2, x3⟩, f0, f1, f2, f3⟩ := id X
        have d2 := n1.trans (n2.mono n1.size)
        have p1 := keepC n2 p1 hb
        have p2 := keepC n2 p2 hb
        have hb := Nat.lt_of_lt_of_le hb n2.size
        clear n1 n2
        clear p0
        go_wp2_with fail
        refine (HG.out _ (HE.out.go d2)).mono ?_
        rintro e w3 ⟨rfl, n3⟩
        clear x0 x1 x2 x3 f0 f1 f2 f3
        have X := X.on n3
        obtain ⟨⟨x0, x1, x2, x3⟩, f0, f1, f2, f3⟩ := id X
        have d3 := d2.trans (n3.mono d2.size)
        have p1 := keepC n3 p1 hb
        have p2 := keepC n3 p2 hb
        have hb := Nat.lt_of_lt_of_le hb n3.size
        clear d2 n3
        go_wp2_with fail
        refine (HC.out _ (HF.out.go d3)).mono ?_
        rintro e w4 ⟨rfl, n4⟩
        clear x0 x1 x2 x3 f0 f1 f2 f3
        have X := X.on n4
        obtain ⟨⟨x0, x1, x2, x3⟩, f0, f1, f2, f3⟩ := id X
        have d4 := d3.trans (n4.mono d3.size)
        have p1 := keepC n4 p1 hb
        have hb := Nat.lt_of_lt_of_le hb n4.size
        have n5 := aBelow w4 (.cells #[.int .i64 V1, .bool V2] 43)
        have X := X.on n5
        have p1 := keepC n5 p1 hb
        clear x0 x1 x2 x3 f0 f1 f2 f3
        obtain ⟨⟨x0, x1, x2, x3⟩, f0, f1, f2, f3⟩ := id X
        have d4 := d4.trans (n5.mono d4.size)
        clear d3 n4 p2 n5
        go_wp2_with fail
        refine bodyPost_ret (v := .tuple #[.agg #[.int .i64 0, .string ⟨#[]⟩, .int .i64 0, .bool false], .int .i64 V3]) (by simp [results, Tryz.results76, go_sem, x0, x1, x2, x3]) rfl ⟨rfl, ?_⟩
        exact (((d4.setCell (Nat.le_refl _) _).setCell (Nat.le_refl _) _).setCell (Nat.le_refl _) _).setCell (Nat.le_refl _) _
    · rw [if_neg h_G]
      have q_G : (G != 0) = true := by simp [h_G]
      have r_G : (G == 0) = false := by simp [h_G]
      go_enter Tryz.func76, Tryz.ntmps76
      go_wp2_with fail
      have n0 := aBelow w (.cells #[.int .i64 0, .string ⟨#[]⟩, .int .i64 0, .bool false] 45)
      refine (HSP.out _ (HE.out.go n0)).mono ?_
      rintro e w1 ⟨⟨v, rfl, hv⟩, n1⟩
      have X := (RX.new w w.heap.size zrow rfl).on n1
      have n1 := n0.trans (n1.mono n0.size)
      have zz : w.heap.size < w1.heap.size := X.lt
      clear n0
      obtain ⟨ad, cp, rfl, hcp, hl⟩ := hv
      obtain ⟨bk, of, rfl, hb, hL⟩ := hl (by simp)
      have p0 : w1.cell? ⟨bk, of, none⟩ = some (.string a) := hL 0 a rfl
      have p1 := hL 1 b rfl
      have p2 := hL 2 c rfl
      have hlen : [a, b, c].length = 3 := rfl
      rw [hlen] at hcp ⊢
      clear HSP hL hl hlen
      obtain ⟨⟨x0, x1, x2, x3⟩, f0, f1, f2, f3⟩ := id X
      go_wp2_with fail
      refine (HR.out _ (HF.out.go n1)).mono ?_
      rintro e w2 ⟨rfl, n2⟩
      clear x0 x1 x2 x3 f0 f1 f2 f3
      have X := X.on n2
      obtain ⟨⟨x0, x1, x2, x3⟩, f0, f1, f2, f3⟩ := id X
      have d2 := n1.trans (n2.mono n1.size)
      have p1 := keepC n2 p1 hb
      have p2 := keepC n2 p2 hb
      have hb := Nat.lt_of_lt_of_le hb n2.size
      clear n1 n2
      clear p0
      go_wp2_with fail
      refine (HG.out _ (HE.out.go d2)).mono ?_
      rintro e w3 ⟨rfl, n3⟩
      clear x0 x1 x2 x3 f0 f1 f2 f3
      have X := X.on n3
      obtain ⟨⟨x0, x1, x2, x3⟩, f0, f1, f2, f3⟩ := id X
      have d3 := d2.trans (n3.mono d2.size)
      have p1 := keepC n3 p1 hb
      have p2 := keepC n3 p2 hb
      have hb := Nat.lt_of_lt_of_le hb n3.size
      clear d2 n3
      go_wp2_with fail
      refine bodyPost_ret (v := .tuple #[.agg #[.int .i64 0, .string ⟨#[]⟩, .int .i64 0, .bool false], .int .i64 G]) (by simp [results, Tryz.results76, go_sem, x0, x1, x2, x3]) rfl ⟨rfl, ?_⟩
      exact (((d3.setCell (Nat.le_refl _) _).setCell (Nat.le_refl _) _).setCell (Nat.le_refl _) _).setCell (Nat.le_refl _) _
  · rw [if_neg h_R2]
    have q_R2 : (R2 != 0) = true := by simp [h_R2]
    have r_R2 : (R2 == 0) = false := by simp [h_R2]
    go_enter Tryz.func76, Tryz.ntmps76
    go_wp2_with fail
    have n0 := aBelow w (.cells #[.int .i64 0, .string ⟨#[]⟩, .int .i64 0, .bool false] 45)
    refine (HSP.out _ (HE.out.go n0)).mono ?_
    rintro e w1 ⟨⟨v, rfl, hv⟩, n1⟩
    have X := (RX.new w w.heap.size zrow rfl).on n1
    have n1 := n0.trans (n1.mono n0.size)
    have zz : w.heap.size < w1.heap.size := X.lt
    clear n0
    obtain ⟨ad, cp, rfl, hcp, hl⟩ := hv
    obtain ⟨bk, of, rfl, hb, hL⟩ := hl (by simp)
    have p0 : w1.cell? ⟨bk, of, none⟩ = some (.string a) := hL 0 a rfl
    have p1 := hL 1 b rfl
    have p2 := hL 2 c rfl
    have hlen : [a, b, c].length = 3 := rfl
    rw [hlen] at hcp ⊢
    clear HSP hL hl hlen
    obtain ⟨⟨x0, x1, x2, x3⟩, f0, f1, f2, f3⟩ := id X
    go_wp2_with fail
    refine (HR.out _ (HF.out.go n1)).mono ?_
    rintro e w2 ⟨rfl, n2⟩
    clear x0 x1 x2 x3 f0 f1 f2 f3
    have X := X.on n2
    obtain ⟨⟨x0, x1, x2, x3⟩, f0, f1, f2, f3⟩ := id X
    have d2 := n1.trans (n2.mono n1.size)
    have p1 := keepC n2 p1 hb
    have p2 := keepC n2 p2 hb
    have hb := Nat.lt_of_lt_of_le hb n2.size
    clear n1 n2
    clear p0
    go_wp2_with fail
    refine bodyPost_ret (v := .tuple #[.agg #[.int .i64 0, .string ⟨#[]⟩, .int .i64 0, .bool false], .int .i64 R2]) (by simp [results, Tryz.results76, go_sem, x0, x1, x2, x3]) rfl ⟨rfl, ?_⟩
    exact (((d2.setCell (Nat.le_refl _) _).setCell (Nat.le_refl _) _).setCell (Nat.le_refl _) _).setCell (Nat.le_refl _) _

set_option maxRecDepth 100000 in
set_option maxHeartbeats 1000000 in
theorem readN (B : Nat) (s : ByteArray) (w : World) (hE : Env w) (hF : St.Env B w) (hs : s.size ≤ 900) (h3 : (partsB 124 s).length ≠ 3) :
    Calls Tryz.prog 76 #[.string s] w fun e w' => e = .returned (.tuple #[rowV zrow, .int .i64 2]) ∧ Below w.heap.size w w' := by
  have HSP := fun W (hW : Env W) => ssplit_any s 124 W hW (by omega)
  have HSP := Lib.hid HSP
  have hl : (partsB 124 s).length ≤ 901 := by have := parts_le 124 s; omega
  generalize partsB 124 s = l at *
  have q1 : ((l.length : Int) != 3) = true := by simp; omega
  have q2 : ((l.length : Int) == 3) = false := by simp; omega
  have HE := Lib.hid hE
  have HF := Lib.hid hF
  clear hE hF
  go_enter Tryz.func76, Tryz.ntmps76
  go_wp2_with fail
  have n0 := aBelow w (.cells #[.int .i64 0, .string ⟨#[]⟩, .int .i64 0, .bool false] 45)
  refine (HSP.out _ (HE.out.go n0)).mono ?_
  rintro e w1 ⟨⟨v, rfl, hv⟩, n1⟩
  have X := (RX.new w w.heap.size zrow rfl).on n1
  have n1 := n0.trans (n1.mono n0.size)
  clear n0 HSP
  obtain ⟨ad, cp, rfl, hcp, _⟩ := hv
  obtain ⟨⟨x0, x1, x2, x3⟩, f0, f1, f2, f3⟩ := id X
  go_wp2_with fail
  refine bodyPost_ret (v := .tuple #[.agg #[.int .i64 0, .string ⟨#[]⟩, .int .i64 0, .bool false], .int .i64 2]) (by simp [results, Tryz.results76, go_sem, x0, x1, x2, x3]) rfl ⟨rfl, ?_⟩
  exact (((n1.setCell (Nat.le_refl _) _).setCell (Nat.le_refl _) _).setCell (Nat.le_refl _) _).setCell (Nat.le_refl _) _
theorem read_any (B : Nat) (s : ByteArray) (w : World) (hE : Env w) (hF : St.Env B w) (hs : s.size ≤ 900) :
    Calls Tryz.prog 76 #[.string s] w fun e w' => e = .returned (.tuple #[rowV (rread s.data.toList).1, .int .i64 (rread s.data.toList).2]) ∧ Below w.heap.size w w' := by
  by_cases h : (partsB 124 s).length = 3
  · obtain ⟨a, b, c, e⟩ := three_of h
    rw [rread_row3 e]
    exact read3 B s a b c w hE hF hs e
  · rw [rread_not3 h]
    exact readN B s w hE hF hs h

set_option maxRecDepth 100000 in
set_option maxHeartbeats 2000000 in
theorem refOne3 (s a b c : ByteArray) (w : World) (hs : s.size ≤ 900) (h3 : partsB 124 s = [a, b, c]) :
    Calls Tryz.prog 44 #[.string s] w fun e w' => e = .returned (.tuple #[rowV (row3 a b c).1, .int .i64 (row3 a b c).2]) ∧ Below w.heap.size w w' := by
  have HSP := fun W => refSplit_any s 124 W (by omega)
  rw [h3] at HSP
  have HSP := Lib.hid HSP
  have za : a.size ≤ 900 := by have := part_le (c := 124) (s := s) (x := a) (by rw [h3]; simp); omega
  have zb : b.size ≤ 900 := by have := part_le (c := 124) (s := s) (x := b) (by rw [h3]; simp); omega
  have zc : c.size ≤ 900 := by have := part_le (c := 124) (s := s) (x := c) (by rw [h3]; simp); omega
  
  have HR := fun W  => St.refRead_any a W (by omega)
  have HG := fun W  => refGroup_any b W zb
  have HC := fun W  => St.refParse_any c W (by omega)
  unfold row3
  generalize Sat.read a.data.toList = R at *
  generalize grpE b = G at *
  generalize Sat.parseL c.data.toList = V at *
  obtain ⟨R1, R2⟩ := R
  obtain ⟨V1, V2, V3⟩ := V
  simp only at HR HC ⊢
  have HR := Lib.hid HR
  have HG := Lib.hid HG
  have HC := Lib.hid HC
  clear h3 za zb zc
  by_cases h_R2 : R2 = 0
  · rw [if_pos h_R2]
    subst h_R2
    by_cases h_G : G = 0
    · rw [if_pos h_G]
      subst h_G
      by_cases h_V3 : V3 = 0
      · rw [if_pos h_V3]
        subst h_V3
        go_enter Tryz.func44, Tryz.ntmps44
        go_wp2_with fail
        have n0 := aBelow w (.cells #[.int .i64 0, .string ⟨#[]⟩, .int .i64 0, .bool false] 45)
        refine (HSP.out _).mono ?_
        rintro e w1 ⟨⟨v, rfl, hv⟩, n1⟩
        have X := (RX.new w w.heap.size zrow rfl).on n1
        have n1 := n0.trans (n1.mono n0.size)
        have zz : w.heap.size < w1.heap.size := X.lt
        clear n0
        obtain ⟨ad, cp, rfl, hcp, hl⟩ := hv
        obtain ⟨bk, of, rfl, hb, hL⟩ := hl (by simp)
        have p0 : w1.cell? ⟨bk, of, none⟩ = some (.string a) := hL 0 a rfl
        have p1 := hL 1 b rfl
        have p2 := hL 2 c rfl
        have hlen : [a, b, c].length = 3 := rfl
        rw [hlen] at hcp ⊢
        clear HSP hL hl hlen
        obtain ⟨⟨x0, x1, x2, x3⟩, f0, f1, f2, f3⟩ := id X
        go_wp2_with fail
        refine (HR.out _).mono ?_
        rintro e w2 ⟨rfl, hw2⟩
        have hw2 := hw2.symm
        subst hw2
        have d2 := n1
        clear n1
        clear p0
        go_wp2_with fail
        refine (HG.out _).mono ?_
        rintro e w3 ⟨rfl, n3⟩
        clear x0 x1 x2 x3 f0 f1 f2 f3
        have X := X.on n3
        obtain ⟨⟨x0, x1, x2, x3⟩, f0, f1, f2, f3⟩ := id X
        have d3 := d2.trans (n3.mono d2.size)
        have p1 := keepC n3 p1 hb
        have p2 := keepC n3 p2 hb
        have hb := Nat.lt_of_lt_of_le hb n3.size
        clear d2 n3
        go_wp2_with fail
        refine (HC.out _).mono ?_
        rintro e w4 ⟨rfl, n4⟩
        clear x0 x1 x2 x3 f0 f1 f2 f3
        have X := X.on n4
        obtain ⟨⟨x0, x1, x2, x3⟩, f0, f1, f2, f3⟩ := id X
        have d4 := d3.trans (n4.mono d3.size)
        have p1 := keepC n4 p1 hb
        have hb := Nat.lt_of_lt_of_le hb n4.size
        have n5 := aBelow w4 (.cells #[.int .i64 V1, .bool V2] 43)
        have X := X.on n5
        have p1 := keepC n5 p1 hb
        clear x0 x1 x2 x3 f0 f1 f2 f3
        obtain ⟨⟨x0, x1, x2, x3⟩, f0, f1, f2, f3⟩ := id X
        have d4 := d4.trans (n5.mono d4.size)
        clear d3 n4 p2 n5
        go_wp2_with fail
        go_region_with (fail)
        all_goals (try go_wp2_with fail)
        all_goals refine bodyPost_ret (v := .tuple #[.agg #[.int .i64 R1, .string b, .int .i64 V1, .bool V2], .int .i64 0]) (by simp [results, Tryz.results44, go_sem, x0, x1, x2, x3]) rfl ⟨rfl, ?_⟩
        all_goals exact (((d4.drew.setCell (p := ⟨w.heap.size, 0, none⟩) (Nat.le_refl _) _).setCell (p := ⟨w.heap.size, 1, none⟩) (Nat.le_refl _) _).setCell (p := ⟨w.heap.size, 2, none⟩) (Nat.le_refl _) _).setCell (p := ⟨w.heap.size, 3, none⟩) (Nat.le_refl _) _
      · rw [if_neg h_V3]
        have q_V3 : (V3 != 0) = true := by simp [h_V3]
        have r_V3 : (V3 == 0) = false := by simp [h_V3]
        go_enter Tryz.func44, Tryz.ntmps44
        go_wp2_with fail
        have n0 := aBelow w (.cells #[.int .i64 0, .string ⟨#[]⟩, .int .i64 0, .bool false] 45)
        refine (HSP.out _).mono ?_
        rintro e w1 ⟨⟨v, rfl, hv⟩, n1⟩
        have X := (RX.new w w.heap.size zrow rfl).on n1
        have n1 := n0.trans (n1.mono n0.size)
        have zz : w.heap.size < w1.heap.size := X.lt
        clear n0
        obtain ⟨ad, cp, rfl, hcp, hl⟩ := hv
        obtain ⟨bk, of, rfl, hb, hL⟩ := hl (by simp)
        have p0 : w1.cell? ⟨bk, of, none⟩ = some (.string a) := hL 0 a rfl
        have p1 := hL 1 b rfl
        have p2 := hL 2 c rfl
        have hlen : [a, b, c].length = 3 := rfl
        rw [hlen] at hcp ⊢
        clear HSP hL hl hlen
        obtain ⟨⟨x0, x1, x2, x3⟩, f0, f1, f2, f3⟩ := id X
        go_wp2_with fail
        refine (HR.out _).mono ?_
        rintro e w2 ⟨rfl, hw2⟩
        have hw2 := hw2.symm
        subst hw2
        have d2 := n1
        clear n1
        clear p0
        go_wp2_with fail
        refine (HG.out _).mono ?_
        rintro e w3 ⟨rfl, n3⟩
        clear x0 x1 x2 x3 f0 f1 f2 f3
        have X := X.on n3
        obtain ⟨⟨x0, x1, x2, x3⟩, f0, f1, f2, f3⟩ := id X
        have d3 := d2.trans (n3.mono d2.size)
        have p1 := keepC n3 p1 hb
        have p2 := keepC n3 p2 hb
        have hb := Nat.lt_of_lt_of_le hb n3.size
        clear d2 n3
        go_wp2_with fail
        refine (HC.out _).mono ?_
        rintro e w4 ⟨rfl, n4⟩
        clear x0 x1 x2 x3 f0 f1 f2 f3
        have X := X.on n4
        obtain ⟨⟨x0, x1, x2, x3⟩, f0, f1, f2, f3⟩ := id X
        have d4 := d3.trans (n4.mono d3.size)
        have p1 := keepC n4 p1 hb
        have hb := Nat.lt_of_lt_of_le hb n4.size
        have n5 := aBelow w4 (.cells #[.int .i64 V1, .bool V2] 43)
        have X := X.on n5
        have p1 := keepC n5 p1 hb
        clear x0 x1 x2 x3 f0 f1 f2 f3
        obtain ⟨⟨x0, x1, x2, x3⟩, f0, f1, f2, f3⟩ := id X
        have d4 := d4.trans (n5.mono d4.size)
        clear d3 n4 p2 n5
        go_wp2_with fail
        refine bodyPost_ret (v := .tuple #[.agg #[.int .i64 0, .string ⟨#[]⟩, .int .i64 0, .bool false], .int .i64 V3]) (by simp [results, Tryz.results44, go_sem, x0, x1, x2, x3]) rfl ⟨rfl, ?_⟩
        exact (((d4.setCell (Nat.le_refl _) _).setCell (Nat.le_refl _) _).setCell (Nat.le_refl _) _).setCell (Nat.le_refl _) _
    · rw [if_neg h_G]
      have q_G : (G != 0) = true := by simp [h_G]
      have r_G : (G == 0) = false := by simp [h_G]
      go_enter Tryz.func44, Tryz.ntmps44
      go_wp2_with fail
      have n0 := aBelow w (.cells #[.int .i64 0, .string ⟨#[]⟩, .int .i64 0, .bool false] 45)
      refine (HSP.out _).mono ?_
      rintro e w1 ⟨⟨v, rfl, hv⟩, n1⟩
      have X := (RX.new w w.heap.size zrow rfl).on n1
      have n1 := n0.trans (n1.mono n0.size)
      have zz : w.heap.size < w1.heap.size := X.lt
      clear n0
      obtain ⟨ad, cp, rfl, hcp, hl⟩ := hv
      obtain ⟨bk, of, rfl, hb, hL⟩ := hl (by simp)
      have p0 : w1.cell? ⟨bk, of, none⟩ = some (.string a) := hL 0 a rfl
      have p1 := hL 1 b rfl
      have p2 := hL 2 c rfl
      have hlen : [a, b, c].length = 3 := rfl
      rw [hlen] at hcp ⊢
      clear HSP hL hl hlen
      obtain ⟨⟨x0, x1, x2, x3⟩, f0, f1, f2, f3⟩ := id X
      go_wp2_with fail
      refine (HR.out _).mono ?_
      rintro e w2 ⟨rfl, hw2⟩
      have hw2 := hw2.symm
      subst hw2
      have d2 := n1
      clear n1
      clear p0
      go_wp2_with fail
      refine (HG.out _).mono ?_
      rintro e w3 ⟨rfl, n3⟩
      clear x0 x1 x2 x3 f0 f1 f2 f3
      have X := X.on n3
      obtain ⟨⟨x0, x1, x2, x3⟩, f0, f1, f2, f3⟩ := id X
      have d3 := d2.trans (n3.mono d2.size)
      have p1 := keepC n3 p1 hb
      have p2 := keepC n3 p2 hb
      have hb := Nat.lt_of_lt_of_le hb n3.size
      clear d2 n3
      go_wp2_with fail
      refine bodyPost_ret (v := .tuple #[.agg #[.int .i64 0, .string ⟨#[]⟩, .int .i64 0, .bool false], .int .i64 G]) (by simp [results, Tryz.results44, go_sem, x0, x1, x2, x3]) rfl ⟨rfl, ?_⟩
      exact (((d3.setCell (Nat.le_refl _) _).setCell (Nat.le_refl _) _).setCell (Nat.le_refl _) _).setCell (Nat.le_refl _) _
  · rw [if_neg h_R2]
    have q_R2 : (R2 != 0) = true := by simp [h_R2]
    have r_R2 : (R2 == 0) = false := by simp [h_R2]
    go_enter Tryz.func44, Tryz.ntmps44
    go_wp2_with fail
    have n0 := aBelow w (.cells #[.int .i64 0, .string ⟨#[]⟩, .int .i64 0, .bool false] 45)
    refine (HSP.out _).mono ?_
    rintro e w1 ⟨⟨v, rfl, hv⟩, n1⟩
    have X := (RX.new w w.heap.size zrow rfl).on n1
    have n1 := n0.trans (n1.mono n0.size)
    have zz : w.heap.size < w1.heap.size := X.lt
    clear n0
    obtain ⟨ad, cp, rfl, hcp, hl⟩ := hv
    obtain ⟨bk, of, rfl, hb, hL⟩ := hl (by simp)
    have p0 : w1.cell? ⟨bk, of, none⟩ = some (.string a) := hL 0 a rfl
    have p1 := hL 1 b rfl
    have p2 := hL 2 c rfl
    have hlen : [a, b, c].length = 3 := rfl
    rw [hlen] at hcp ⊢
    clear HSP hL hl hlen
    obtain ⟨⟨x0, x1, x2, x3⟩, f0, f1, f2, f3⟩ := id X
    go_wp2_with fail
    refine (HR.out _).mono ?_
    rintro e w2 ⟨rfl, hw2⟩
    have hw2 := hw2.symm
    subst hw2
    have d2 := n1
    clear n1
    clear p0
    go_wp2_with fail
    refine bodyPost_ret (v := .tuple #[.agg #[.int .i64 0, .string ⟨#[]⟩, .int .i64 0, .bool false], .int .i64 R2]) (by simp [results, Tryz.results44, go_sem, x0, x1, x2, x3]) rfl ⟨rfl, ?_⟩
    exact (((d2.setCell (Nat.le_refl _) _).setCell (Nat.le_refl _) _).setCell (Nat.le_refl _) _).setCell (Nat.le_refl _) _

set_option maxRecDepth 100000 in
set_option maxHeartbeats 1000000 in
theorem refOneN (s : ByteArray) (w : World) (hs : s.size ≤ 900) (h3 : (partsB 124 s).length ≠ 3) :
    Calls Tryz.prog 44 #[.string s] w fun e w' => e = .returned (.tuple #[rowV zrow, .int .i64 2]) ∧ Below w.heap.size w w' := by
  have HSP := fun W => refSplit_any s 124 W (by omega)
  have HSP := Lib.hid HSP
  have hl : (partsB 124 s).length ≤ 901 := by have := parts_le 124 s; omega
  generalize partsB 124 s = l at *
  have q1 : ((l.length : Int) != 3) = true := by simp; omega
  have q2 : ((l.length : Int) == 3) = false := by simp; omega
  
  go_enter Tryz.func44, Tryz.ntmps44
  go_wp2_with fail
  have n0 := aBelow w (.cells #[.int .i64 0, .string ⟨#[]⟩, .int .i64 0, .bool false] 45)
  refine (HSP.out _).mono ?_
  rintro e w1 ⟨⟨v, rfl, hv⟩, n1⟩
  have X := (RX.new w w.heap.size zrow rfl).on n1
  have n1 := n0.trans (n1.mono n0.size)
  clear n0 HSP
  obtain ⟨ad, cp, rfl, hcp, _⟩ := hv
  obtain ⟨⟨x0, x1, x2, x3⟩, f0, f1, f2, f3⟩ := id X
  go_wp2_with fail
  refine bodyPost_ret (v := .tuple #[.agg #[.int .i64 0, .string ⟨#[]⟩, .int .i64 0, .bool false], .int .i64 2]) (by simp [results, Tryz.results44, go_sem, x0, x1, x2, x3]) rfl ⟨rfl, ?_⟩
  exact (((n1.setCell (Nat.le_refl _) _).setCell (Nat.le_refl _) _).setCell (Nat.le_refl _) _).setCell (Nat.le_refl _) _
theorem refOne_any (s : ByteArray) (w : World) (hs : s.size ≤ 900) :
    Calls Tryz.prog 44 #[.string s] w fun e w' => e = .returned (.tuple #[rowV (rread s.data.toList).1, .int .i64 (rread s.data.toList).2]) ∧ Below w.heap.size w w' := by
  by_cases h : (partsB 124 s).length = 3
  · obtain ⟨a, b, c, e⟩ := three_of h
    rw [rread_row3 e]
    exact refOne3 s a b c w hs e
  · rw [rread_not3 h]
    exact refOneN s w hs h

end Go.Proofs.YtehgpibngalhfaaGreatDoor.Rw
