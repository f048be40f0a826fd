/- The cells that are asked, merged by their places: a walk. -/
import Derived.Test.YtidkpalckafgkaaGreatDoorE5
namespace Go.Proofs.YtidkpalckafgkaaGreatDoor.Rw
open Go Go.RowKit Go.Sort Go.Lib Tg Pk Ky Qy

/-- The box of what is asked. -/
def QX (b : Nat) (g : Int) (n : ByteArray) (m l : Value) (w : World) : Prop :=
  w.cell? ⟨b, 0, none⟩ = some (.int .i64 g) ∧ w.cell? ⟨b, 1, none⟩ = some (.string n) ∧ w.cell? ⟨b, 2, none⟩ = some m ∧ w.cell? ⟨b, 3, none⟩ = some l
theorem QX.keep {b : Nat} {g : Int} {n : ByteArray} {m l : Value} {w w1 : World} (h : QX b g n m l w) (d : Keeps w w1) : QX b g n m l w1 := ⟨d.2 _ _ h.1, d.2 _ _ h.2.1, d.2 _ _ h.2.2.1, d.2 _ _ h.2.2.2⟩
theorem belowA2' (w : World) (o1 o2 : Obj) : Below w.heap.size w ((w.alloc o1).alloc o2) := (aBelow w o1).trans ((aBelow _ o2).mono (by simp))
theorem textB_group (q : Query) (i : Item) : textB (only (keyOf' i).2 q.2.2.2) = bb (qgroup q (keyOf' i)) := by
  unfold qgroup
  rw [← textB_list]
  rfl
theorem asked_err0 {q : Query} {i : Item} (h : asked q i = true) : (kparse (kl i)).2 = 0 ∧ ¬ i.c.cnt < 1 := by
  constructor
  · by_cases e : (kparse (kl i)).2 = 0
    · exact e
    · rw [asked_err e] at h; cases h
  · intro e; rw [asked_empty e] at h; cases h

/-- The box of an item. -/
def IX (b : Nat) (x1 : Int) (x2 : ByteArray) (c1 c2 : Int) (c3 : Bool) (c4 c5 : Int) (w : World) : Prop :=
  w.cell? ⟨b, 0, none⟩ = some (.int .i64 x1) ∧ w.cell? ⟨b, 1, none⟩ = some (.string x2) ∧ w.cell? ⟨b, 2, none⟩ = some (.int .i64 c1) ∧ w.cell? ⟨b, 3, none⟩ = some (.int .i64 c2) ∧ w.cell? ⟨b, 4, none⟩ = some (.bool c3) ∧ w.cell? ⟨b, 5, none⟩ = some (.int .i64 c4) ∧ w.cell? ⟨b, 6, none⟩ = some (.int .i64 c5)
theorem IX.new (w : World) (x1 : Int) (x2 : ByteArray) (c1 c2 : Int) (c3 : Bool) (c4 c5 : Int) : IX w.heap.size x1 x2 c1 c2 c3 c4 c5 (w.alloc (.cells #[.int .i64 x1, .string x2, .int .i64 c1, .int .i64 c2, .bool c3, .int .i64 c4, .int .i64 c5] 50)) := by
  refine ⟨?_, ?_, ?_, ?_, ?_, ?_, ?_⟩ <;> simp
theorem IX.on {b : Nat} {x1 : Int} {x2 : ByteArray} {c1 c2 : Int} {c3 : Bool} {c4 c5 : Int} {w w1 : World} (h : IX b x1 x2 c1 c2 c3 c4 c5 w) (d : Below w.heap.size w w1) : IX b x1 x2 c1 c2 c3 c4 c5 w1 := by
  obtain ⟨t0, t1, t2, t3, t4, t5, t6⟩ := h
  have z1 := World.block_lt_of_cell? _ _ t0
  exact ⟨keepC d t0 z1, keepC d t1 z1, keepC d t2 z1, keepC d t3 z1, keepC d t4 z1, keepC d t5 z1, keepC d t6 z1⟩

theorem MapOf.mono {w : World} {b n n' : Nat} {L : List Item} (h : MapOf w b n L) (hn : n ≤ n') : MapOf w b n' L := by
  obtain ⟨D, ho, hs⟩ := h
  exact ⟨D, ho.mono hn, hs⟩
/-- What the group's walk reads: the boxes of what is asked, of the item and of the key; nothing older turns. -/
def GS (q0 i0 k0 : Nat) (g : Int) (n : ByteArray) (vm vl : Value) (x1 : Int) (k1 : ByteArray) (vk : Value) (w w' : World) : Prop :=
  w'.cell? ⟨q0, 0, none⟩ = some (.int .i64 g) ∧ w'.cell? ⟨q0, 1, none⟩ = some (.string n) ∧ w'.cell? ⟨q0, 2, none⟩ = some vm ∧ w'.cell? ⟨q0, 3, none⟩ = some vl ∧ w'.cell? ⟨i0, 0, none⟩ = some (.int .i64 x1) ∧ w'.cell? ⟨k0, 0, none⟩ = some (.string k1) ∧ w'.cell? ⟨k0, 1, none⟩ = some vk ∧ Below w.heap.size w w'
theorem gs_on {q0 i0 k0 : Nat} {g : Int} {n : ByteArray} {vm vl : Value} {x1 : Int} {k1 : ByteArray} {vk : Value} {w w' w2 : World} (h : w'.cell? ⟨q0, 0, none⟩ = some (.int .i64 g) ∧ w'.cell? ⟨q0, 1, none⟩ = some (.string n) ∧ w'.cell? ⟨q0, 2, none⟩ = some vm ∧ w'.cell? ⟨q0, 3, none⟩ = some vl ∧ w'.cell? ⟨i0, 0, none⟩ = some (.int .i64 x1) ∧ w'.cell? ⟨k0, 0, none⟩ = some (.string k1) ∧ w'.cell? ⟨k0, 1, none⟩ = some vk ∧ Below w.heap.size w w') (d : Below w'.heap.size w' w2) :
    w2.cell? ⟨q0, 0, none⟩ = some (.int .i64 g) ∧ w2.cell? ⟨q0, 1, none⟩ = some (.string n) ∧ w2.cell? ⟨q0, 2, none⟩ = some vm ∧ w2.cell? ⟨q0, 3, none⟩ = some vl ∧ w2.cell? ⟨i0, 0, none⟩ = some (.int .i64 x1) ∧ w2.cell? ⟨k0, 0, none⟩ = some (.string k1) ∧ w2.cell? ⟨k0, 1, none⟩ = some vk ∧ Below w.heap.size w w2 := by
  obtain ⟨h0, h1, h2, h3, h4, h5, h6, h7⟩ := h
  have z0 := World.block_lt_of_cell? _ _ h0
  have z1 := World.block_lt_of_cell? _ _ h4
  have z2 := World.block_lt_of_cell? _ _ h5
  exact ⟨keepC d h0 z0, keepC d h1 z0, keepC d h2 z0, keepC d h3 z0, keepC d h4 z1, keepC d h5 z2, keepC d h6 z2, h7.trans (d.mono h7.size)⟩
theorem gs_alloc {q0 i0 k0 : Nat} {g : Int} {n : ByteArray} {vm vl : Value} {x1 : Int} {k1 : ByteArray} {vk : Value} {w w' : World} (o : Obj) (h : w'.cell? ⟨q0, 0, none⟩ = some (.int .i64 g) ∧ w'.cell? ⟨q0, 1, none⟩ = some (.string n) ∧ w'.cell? ⟨q0, 2, none⟩ = some vm ∧ w'.cell? ⟨q0, 3, none⟩ = some vl ∧ w'.cell? ⟨i0, 0, none⟩ = some (.int .i64 x1) ∧ w'.cell? ⟨k0, 0, none⟩ = some (.string k1) ∧ w'.cell? ⟨k0, 1, none⟩ = some vk ∧ Below w.heap.size w w') :
    (w'.alloc o).cell? ⟨q0, 0, none⟩ = some (.int .i64 g) ∧ (w'.alloc o).cell? ⟨q0, 1, none⟩ = some (.string n) ∧ (w'.alloc o).cell? ⟨q0, 2, none⟩ = some vm ∧ (w'.alloc o).cell? ⟨q0, 3, none⟩ = some vl ∧ (w'.alloc o).cell? ⟨i0, 0, none⟩ = some (.int .i64 x1) ∧ (w'.alloc o).cell? ⟨k0, 0, none⟩ = some (.string k1) ∧ (w'.alloc o).cell? ⟨k0, 1, none⟩ = some vk ∧ Below w.heap.size w (w'.alloc o) := gs_on h (aBelow _ _)

theorem newb0 {w w5 : World} {o : Value} {x : Value} {t : TypeId} (n : Below (w.drew.alloc (.cells #[o, x] t)).heap.size (w.drew.alloc (.cells #[o, x] t)) w5) : w5.cell? ⟨w.heap.size, 0, none⟩ = some o := by
  have hz : w.heap.size < (w.drew.alloc (.cells #[o, x] t)).heap.size := by simp
  have hc : (w.drew.alloc (.cells #[o, x] t)).cell? ⟨w.heap.size, 0, none⟩ = some o := by
    simp [go_sem]
  exact keepC n hc hz
theorem newb1 {w w5 : World} {o : Value} {x : Value} {t : TypeId} (n : Below (w.drew.alloc (.cells #[o, x] t)).heap.size (w.drew.alloc (.cells #[o, x] t)) w5) : w5.cell? ⟨w.heap.size, 1, none⟩ = some x := by
  have hz : w.heap.size < (w.drew.alloc (.cells #[o, x] t)).heap.size := by simp
  have hc : (w.drew.alloc (.cells #[o, x] t)).cell? ⟨w.heap.size, 1, none⟩ = some x := by
    simp [go_sem]
  exact keepC n hc hz
theorem newf0 {w w5 : World} {o : Value} {x : Value} {t : TypeId} (n : Below (w.drew.alloc (.cells #[o, x] t)).heap.size (w.drew.alloc (.cells #[o, x] t)) w5) : w5.frozen? ⟨w.heap.size, 0, none⟩ = false := by
  have hz : w.heap.size < (w.drew.alloc (.cells #[o, x] t)).heap.size := by simp
  have hc : (w.drew.alloc (.cells #[o, x] t)).frozen? ⟨w.heap.size, 0, none⟩ = false := by
    simp [go_sem]
  exact keepF2 n hc hz
theorem newf1 {w w5 : World} {o : Value} {x : Value} {t : TypeId} (n : Below (w.drew.alloc (.cells #[o, x] t)).heap.size (w.drew.alloc (.cells #[o, x] t)) w5) : w5.frozen? ⟨w.heap.size, 1, none⟩ = false := by
  have hz : w.heap.size < (w.drew.alloc (.cells #[o, x] t)).heap.size := by simp
  have hc : (w.drew.alloc (.cells #[o, x] t)).frozen? ⟨w.heap.size, 1, none⟩ = false := by
    simp [go_sem]
  exact keepF2 n hc hz
theorem gs_lt {q0 i0 k0 : Nat} {g : Int} {n : ByteArray} {vm vl : Value} {x1 : Int} {k1 : ByteArray} {vk : Value} {w w' : World} (h : w'.cell? ⟨q0, 0, none⟩ = some (.int .i64 g) ∧ w'.cell? ⟨q0, 1, none⟩ = some (.string n) ∧ w'.cell? ⟨q0, 2, none⟩ = some vm ∧ w'.cell? ⟨q0, 3, none⟩ = some vl ∧ w'.cell? ⟨i0, 0, none⟩ = some (.int .i64 x1) ∧ w'.cell? ⟨k0, 0, none⟩ = some (.string k1) ∧ w'.cell? ⟨k0, 1, none⟩ = some vk ∧ Below w.heap.size w w') : q0 < w'.heap.size ∧ i0 < w'.heap.size ∧ k0 < w'.heap.size :=
  ⟨World.block_lt_of_cell? _ _ h.1, World.block_lt_of_cell? _ _ h.2.2.2.2.1, World.block_lt_of_cell? _ _ h.2.2.2.2.2.1⟩
theorem gs_set {q0 i0 k0 b off : Nat} {g : Int} {n : ByteArray} {vm vl : Value} {x1 : Int} {k1 : ByteArray} {vk x : Value} {w w' : World} (hq : q0 ≠ b) (hi : i0 ≠ b) (hk : k0 ≠ b) (hb : w.heap.size ≤ b) (h : w'.cell? ⟨q0, 0, none⟩ = some (.int .i64 g) ∧ w'.cell? ⟨q0, 1, none⟩ = some (.string n) ∧ w'.cell? ⟨q0, 2, none⟩ = some vm ∧ w'.cell? ⟨q0, 3, none⟩ = some vl ∧ w'.cell? ⟨i0, 0, none⟩ = some (.int .i64 x1) ∧ w'.cell? ⟨k0, 0, none⟩ = some (.string k1) ∧ w'.cell? ⟨k0, 1, none⟩ = some vk ∧ Below w.heap.size w w') :
    (w'.setCell ⟨b, off, none⟩ x).cell? ⟨q0, 0, none⟩ = some (.int .i64 g) ∧ (w'.setCell ⟨b, off, none⟩ x).cell? ⟨q0, 1, none⟩ = some (.string n) ∧ (w'.setCell ⟨b, off, none⟩ x).cell? ⟨q0, 2, none⟩ = some vm ∧ (w'.setCell ⟨b, off, none⟩ x).cell? ⟨q0, 3, none⟩ = some vl ∧ (w'.setCell ⟨b, off, none⟩ x).cell? ⟨i0, 0, none⟩ = some (.int .i64 x1) ∧ (w'.setCell ⟨b, off, none⟩ x).cell? ⟨k0, 0, none⟩ = some (.string k1) ∧ (w'.setCell ⟨b, off, none⟩ x).cell? ⟨k0, 1, none⟩ = some vk ∧ Below w.heap.size w (w'.setCell ⟨b, off, none⟩ x) := by
  obtain ⟨h0, h1, h2, h3, h4, h5, h6, h7⟩ := h
  exact ⟨(World.cell?_setCell_far _ _ _ _ hq.symm).trans h0, (World.cell?_setCell_far _ _ _ _ hq.symm).trans h1, (World.cell?_setCell_far _ _ _ _ hq.symm).trans h2, (World.cell?_setCell_far _ _ _ _ hq.symm).trans h3, (World.cell?_setCell_far _ _ _ _ hi.symm).trans h4, (World.cell?_setCell_far _ _ _ _ hk.symm).trans h5, (World.cell?_setCell_far _ _ _ _ hk.symm).trans h6, h7.setCell hb _⟩

theorem got_ok (q : Query) (L : List Item) (h : ∀ i ∈ L, okI i) (x : Int) (g : ByteArray) : Cl.okC (gotC (look (mergeP q L) x g)) := by
  unfold gotC
  cases hl : look (mergeP q L) x g with
  | none => exact Cl.ok_zero
  | some c => exact (mergeP_ok q L h _ (look_some hl)).1.2
theorem place_ok {x : Int} {g : ByteArray} (hx : ok64 x) (hg : g.size ≤ 140737488355328) : okP x g := by
  refine ⟨?_, Nat.le_trans hg (by decide)⟩
  unfold ok64 at hx
  simp [Lit.wf, IntKind.min, IntKind.max, IntKind.bits, IntKind.signed]
  omega
theorem cat_new (W : World) (a b : Cl.Cell) (t : TypeId) : Ce.CAt (W.alloc (.cells #[.int .i64 a.cnt, .int .i64 a.sn, .bool a.so, .int .i64 a.mn, .int .i64 a.mx, .int .i64 b.cnt, .int .i64 b.sn, .bool b.so, .int .i64 b.mn, .int .i64 b.mx] t)) (some ⟨W.heap.size, 0, none⟩) [a, b] := by
  intro _
  refine ⟨_, _, rfl, by simp, ?_⟩
  intro i hi
  match i, hi with
  | 0, _ => simp
  | 1, _ => simp

theorem hs7_on {pb i0 : Nat} {x1 : Int} {GB : ByteArray} {c1 c2 : Int} {c3 : Bool} {c4 c5 : Int} {w w2 : World} (h : w.cell? ⟨pb, 0, none⟩ = some (.int .i64 x1) ∧ w.cell? ⟨pb, 1, none⟩ = some (.string GB) ∧ w.cell? ⟨i0, 2, none⟩ = some (.int .i64 c1) ∧ w.cell? ⟨i0, 3, none⟩ = some (.int .i64 c2) ∧ w.cell? ⟨i0, 4, none⟩ = some (.bool c3) ∧ w.cell? ⟨i0, 5, none⟩ = some (.int .i64 c4) ∧ w.cell? ⟨i0, 6, none⟩ = some (.int .i64 c5)) (n : Below w.heap.size w w2) :
    w2.cell? ⟨pb, 0, none⟩ = some (.int .i64 x1) ∧ w2.cell? ⟨pb, 1, none⟩ = some (.string GB) ∧ w2.cell? ⟨i0, 2, none⟩ = some (.int .i64 c1) ∧ w2.cell? ⟨i0, 3, none⟩ = some (.int .i64 c2) ∧ w2.cell? ⟨i0, 4, none⟩ = some (.bool c3) ∧ w2.cell? ⟨i0, 5, none⟩ = some (.int .i64 c4) ∧ w2.cell? ⟨i0, 6, none⟩ = some (.int .i64 c5) := by
  have k := (Keeps.refl w).on n
  exact ⟨k.2 _ _ h.1, k.2 _ _ h.2.1, k.2 _ _ h.2.2.1, k.2 _ _ h.2.2.2.1, k.2 _ _ h.2.2.2.2.1, k.2 _ _ h.2.2.2.2.2.1, k.2 _ _ h.2.2.2.2.2.2⟩
theorem hs7_far {b k : Nat} {L : List Item} {pb i0 : Nat} {x1 : Int} {GB : ByteArray} {c1 c2 : Int} {c3 : Bool} {c4 c5 : Int} {w w2 : World} (h : w.cell? ⟨pb, 0, none⟩ = some (.int .i64 x1) ∧ w.cell? ⟨pb, 1, none⟩ = some (.string GB) ∧ w.cell? ⟨i0, 2, none⟩ = some (.int .i64 c1) ∧ w.cell? ⟨i0, 3, none⟩ = some (.int .i64 c2) ∧ w.cell? ⟨i0, 4, none⟩ = some (.bool c3) ∧ w.cell? ⟨i0, 5, none⟩ = some (.int .i64 c4) ∧ w.cell? ⟨i0, 6, none⟩ = some (.int .i64 c5)) (hm : MapOf w b k L) (n : w.grownBy w2 (some b)) :
    w2.cell? ⟨pb, 0, none⟩ = some (.int .i64 x1) ∧ w2.cell? ⟨pb, 1, none⟩ = some (.string GB) ∧ w2.cell? ⟨i0, 2, none⟩ = some (.int .i64 c1) ∧ w2.cell? ⟨i0, 3, none⟩ = some (.int .i64 c2) ∧ w2.cell? ⟨i0, 4, none⟩ = some (.bool c3) ∧ w2.cell? ⟨i0, 5, none⟩ = some (.int .i64 c4) ∧ w2.cell? ⟨i0, 6, none⟩ = some (.int .i64 c5) := by
  have k := (Keeps.refl w).far hm n
  exact ⟨k.2 _ _ h.1, k.2 _ _ h.2.1, k.2 _ _ h.2.2.1, k.2 _ _ h.2.2.2.1, k.2 _ _ h.2.2.2.2.1, k.2 _ _ h.2.2.2.2.2.1, k.2 _ _ h.2.2.2.2.2.2⟩
theorem drew2 {w w2 : World} (n : Below w.heap.size w w2) : Below w.drew.heap.size w.drew w2.drew := ⟨n.os, n.tape, n.output, n.size, n.block⟩

set_option maxRecDepth 100000 in
set_option maxHeartbeats 4000000 in
theorem gather_any (v1 v2 : Value) (q : Query) (l : List Item) (w : World) (hE : Env w) (h1 : QRow w v1 q) (h2 : IRow w v2 l) (hm : q.2.2.1.length ≤ 1000000) (hb : q.2.2.2.length ≤ 1000000) (hn : l.length ≤ 1000) (hs : ∀ i ∈ l, i.key.size ≤ 900) (ho : ∀ i ∈ l, okI i) :
    Calls Tryz.prog 46 #[v1, v2] w fun e w' => (∃ b, e = .returned (.map (some b)) ∧ w.heap.size ≤ b ∧ MapOf w' b l.length (mergeP q (sortK l))) ∧ Below w.heap.size w w' := by
  obtain ⟨qa, qc, qb, qd, rfl, -, -⟩ := h1.open
  have hlen : (sortK l).length = l.length := (sortK_perm l).length_eq
  have HS := Lib.hid (fun i (hi : i ∈ sortK l) => hs i ((sortK_perm l).mem_iff.1 hi))
  have HO := Lib.hid (fun i (hi : i ∈ sortK l) => ho i ((sortK_perm l).mem_iff.1 hi))
  have HBY := Lib.hid (fun W (d : Below w.heap.size w W) => byKey_any v2 l W (h2.on d) hn)
  have HAS := Lib.hid (fun it (hi : it.key.size ≤ 900) W (d : Below w.heap.size w W) => askedOf_any _ q it W (hE.go d) (h1.on d) hm hi)
  have HGR := Lib.hid (fun it (ha : asked q it = true) v W (d : Below w.heap.size w W) (hk : KRow W v (keyOf' it)) => qgroup_any _ v q (keyOf' it) W (h1.on d) hk hb (key_small (asked_err0 ha).1).1 (key_small (asked_err0 ha).1).2.1)
  clear hs ho hE h1
  obtain ⟨ia, ic, rfl, _, _⟩ := h2
  obtain ⟨M, HM⟩ : ∃ M : List Item → List Item, Hid (∀ L, mergeP q L = M L) := ⟨_, fun _ => rfl⟩
  rw [HM.out]
  generalize sortK l = S at *
  generalize l.length = len at *
  subst hlen
  have hmm := @run_makeMap Tryz.prog
  obtain ⟨g, n, m, by'⟩ := q
  simp only at *
  go_enter Tryz.func46, Tryz.ntmps46
  go_wp2_with fail
  have n0 : Below w.heap.size w ((w.alloc (.cells #[.int .i64 g, .string n, .slice qa m.length qc, .slice qb by'.length qd] 39)).alloc (.map #[] 0)) := belowA2' _ _ _
  have X0 : QX w.heap.size g n (.slice qa m.length qc) (.slice qb by'.length qd) ((w.alloc (.cells #[.int .i64 g, .string n, .slice qa m.length qc, .slice qb by'.length qd] 39)).alloc (.map #[] 0)) := by
    refine ⟨?_, ?_, ?_, ?_⟩ <;> simp
  have M0 := MapOf.made (w.alloc (.cells #[.int .i64 g, .string n, .slice qa m.length qc, .slice qb by'.length qd] 39))
  have hz : (w.alloc (.cells #[.int .i64 g, .string n, .slice qa m.length qc, .slice qb by'.length qd] 39)).heap.size = w.heap.size + 1 := by simp
  rw [hz] at M0
  clear hz
  generalize ((w.alloc (.cells #[.int .i64 g, .string n, .slice qa m.length qc, .slice qb by'.length qd] 39)).alloc (.map #[] 0)) = w0 at *
  refine (HBY.out w0 n0).mono ?_
  rintro e w1 ⟨⟨v, rfl, hv⟩, n1⟩
  obtain ⟨sa, sc, rfl, hsc, hsl⟩ := hv
  have d1 := n0.trans (n1.mono n0.size)
  have X1 := Lib.hid (X0.keep ((Keeps.refl w0).on n1))
  have M1 := Lib.hid (M0.on n1)
  have HL := Lib.hid hsl
  clear n0 n1 X0 M0 hsl HBY
  go_wp2_with fail
  go_loopw [15] (fun i wr => ∃ (k : Nat), k ≤ S.length ∧ i = .int .i64 k ∧ Hid (MapOf wr (w.heap.size + 1) k (M (S.take k))) ∧ Hid (Keeps w1 wr) ∧ Hid (Below w.heap.size w wr)) (fun i _ => S.length - (intOf i).toNat)
  case atStart => exact ⟨0, Nat.zero_le _, rfl, by rw [← HM.out]; exact M1.out, Keeps.refl _, d1⟩
  case round =>
    obtain ⟨k, hk, rfl, HP, HK, HD⟩ := hrel
    by_cases hlt : k < S.length
    · obtain ⟨b, o, rfl, hb1, hL⟩ := HL.out (ne_of_lt hlt)
      obtain ⟨y0, y1, y2, y3, y4, y5, y6⟩ := i_at hL k hlt
      have i1 : (k : Int) < (S.length : Int) := by omega
      have i2 : (0 : Int) ≤ (k : Int) := by omega
      replace y0 := HK.out.2 _ _ y0
      replace y1 := HK.out.2 _ _ y1
      replace y2 := HK.out.2 _ _ y2
      replace y3 := HK.out.2 _ _ y3
      replace y4 := HK.out.2 _ _ y4
      replace y5 := HK.out.2 _ _ y5
      replace y6 := HK.out.2 _ _ y6
      have hx := HS.out _ (List.getElem_mem hlt)
      have hy := HO.out _ (List.getElem_mem hlt)
      have HA := Lib.hid (HAS.out _ hx)
      have HG := Lib.hid (HGR.out (S[k]))
      have HT := Lib.hid (List.take_append_getElem hlt)
      have HOK := Lib.hid (fun x g' => got_ok (g, n, m, by') (S.take k) (fun i hi => HO.out i (List.mem_of_mem_take hi)) x g')
      have HST := Lib.hid (mergeP_strict (g, n, m, by') (S.take k))
      rw [HM.out] at HST
      simp only [HM.out] at HOK
      have hkm : k < maxLen := Nat.lt_of_le_of_lt hk (Nat.lt_of_le_of_lt hn (by decide))
      obtain ⟨z0, z1, z2, z3⟩ := X1.out.keep HK.out
      have HX := Lib.hid (X1.out.keep HK.out)
      generalize hit : S[k] = it at *
      clear hit hL HAS HGR HS HO
      obtain ⟨x1, x2, c1, c2, c3, c4, c5⟩ := it
      simp only at *
      have hql : w.heap.size < wr.heap.size := World.block_lt_of_cell? _ _ z0
      have hqn : ¬ w.heap.size = wr.heap.size := by omega
      obtain ⟨wi, hwi⟩ : ∃ wi, wr.alloc (.cells #[.int .i64 x1, .string x2, .int .i64 c1, .int .i64 c2, .bool c3, .int .i64 c4, .int .i64 c5] 50) = wi := ⟨_, rfl⟩
      have nI : Below wr.heap.size wr wi := by rw [← hwi]; exact aBelow _ _
      have HK1 := Lib.hid (HK.out.on nI)
      have d1 := Lib.hid (HD.out.trans (nI.mono HD.out.size))
      have P1 := Lib.hid (HP.out.on nI)
      have hzi : wi.heap.size = wr.heap.size + 1 := by rw [← hwi]; simp
      have I : IX wr.heap.size x1 x2 c1 c2 c3 c4 c5 wi := by rw [← hwi]; exact IX.new _ _ _ _ _ _ _ _
      have II := Lib.hid I
      obtain ⟨t0, t1, t2, t3, t4, t5, t6⟩ := I
      clear z0 z1 z2 z3
      obtain ⟨z0, z1, z2, z3⟩ := X1.out.keep HK1.out
      go_wp2_with fail
      refine (HA.out wi d1.out).mono ?_
      rintro e w2 ⟨⟨k1, ka, kn, kc, rfl, hkv⟩, n2⟩
      cases ha : asked (g, n, m, by') ⟨x1, x2, c1, c2, c3, c4, c5⟩ with
      | false =>
        clear z0 z1 z2 z3 t0 t1 t2 t3 t4 t5 t6 y0 y1 y2 y3 y4 y5 y6
        go_wp2_with fail
        refine ⟨⟨k + 1, by omega, by simp, ?_, (HK1.out.on n2).on (aBelow _ _), (d1.out.trans (n2.mono d1.out.size)).trans ((aBelow _ _).mono (Nat.le_trans d1.out.size n2.size))⟩, by simp [intOf]; omega⟩
        rw [← HT.out, ← HM.out, mergeP_snoc, ha, if_neg (by simp), HM.out]
        exact ((P1.out.on n2).on (aBelow _ _)).mono (by omega)
      | true =>
        have hkr := hkv ha
        obtain ⟨wk, hwk⟩ : ∃ wk, w2.alloc (.cells #[.string k1, .slice ka kn kc] 78) = wk := ⟨_, rfl⟩
        have nK : Below w2.heap.size w2 wk := by rw [← hwk]; exact aBelow _ _
        have HK2 := Lib.hid ((HK1.out.on n2).on nK)
        have d2 := Lib.hid ((d1.out.trans (n2.mono d1.out.size)).trans (nK.mono (Nat.le_trans d1.out.size n2.size)))
        have P2 := Lib.hid ((P1.out.on n2).on nK)
        have I2 := Lib.hid ((II.out.on n2).on nK)
        have KR := Lib.hid (hkr.on nK)
        have hzk : wk.heap.size = w2.heap.size + 1 := by rw [← hwk]; simp
        have kb0 : wk.cell? ⟨w2.heap.size, 0, none⟩ = some (.string k1) := by rw [← hwk]; simp
        have kb1 : wk.cell? ⟨w2.heap.size, 1, none⟩ = some (.slice ka kn kc) := by rw [← hwk]; simp
        clear z0 z1 z2 z3 t0 t1 t2 t3 t4 t5 t6 y0 y1 y2 y3 y4 y5 y6 hkr hkv
        obtain ⟨z0, z1, z2, z3⟩ := X1.out.keep HK2.out
        obtain ⟨t0, t1, t2, t3, t4, t5, t6⟩ := I2.out
        go_wp2_with fail
        have HS0 : Hid (GS w.heap.size wr.heap.size w2.heap.size g n (.slice qa m.length qc) (.slice qb by'.length qd) x1 k1 (.slice ka kn kc) wk wk.drew) := ⟨z0, z1, z2, z3, t0, kb0, kb1, (Below.refl _ _).drew⟩
        have hS0 := HS0.out
        unfold GS at hS0
        have HGG := Lib.hid (fun W (d : Below wk.heap.size wk W) => HG.out ha _ W (d2.out.trans (d.mono d2.out.size)) (KR.out.on d))
        clear z0 z1 z2 z3 t0 t1 t2 t3 t4 t5 t6 kb0 kb1
        have eG := textB_group (g, n, m, by') ⟨x1, x2, c1, c2, c3, c4, c5⟩
        simp only at eG
        simp only [eG] at HGG
        have HPL := Lib.hid (place_ok hy.1 (only_small (ns := by') (key_small (asked_err0 ha).1).2.1 (key_small (asked_err0 ha).1).1).2.2)
        simp only at HPL
        erw [eG] at HPL
        clear eG
        have HCN := Lib.hid (asked_err0 ha).2
        have HY := Lib.hid hy.2
        generalize hGB : bb (qgroup (g, n, m, by') (keyOf' ⟨x1, x2, c1, c2, c3, c4, c5⟩)) = GB at *
        clear hmm hzk hzi hwi hwk
        have gl := gs_lt hS0
        have gq : w.heap.size ≠ wk.heap.size := Nat.ne_of_lt gl.1
        have gi : wr.heap.size ≠ wk.heap.size := Nat.ne_of_lt gl.2.1
        have gk : w2.heap.size ≠ wk.heap.size := Nat.ne_of_lt gl.2.2
        clear gl
        generalize hq0 : w.heap.size = q0 at *
        generalize hi0 : wr.heap.size = i0 at *
        generalize hk0 : w2.heap.size = k0 at *
        go_region_held3 (fun w' => w'.cell? ⟨q0, 0, none⟩ = some (.int .i64 g) ∧ w'.cell? ⟨q0, 1, none⟩ = some (.string n) ∧ w'.cell? ⟨q0, 2, none⟩ = some (.slice qa m.length qc) ∧ w'.cell? ⟨q0, 3, none⟩ = some (.slice qb by'.length qd) ∧ w'.cell? ⟨i0, 0, none⟩ = some (.int .i64 x1) ∧ w'.cell? ⟨k0, 0, none⟩ = some (.string k1) ∧ w'.cell? ⟨k0, 1, none⟩ = some (.slice ka kn kc) ∧ Below wk.heap.size wk w') (first | assumption | exact gs_alloc _ (by assumption) | exact gs_set gq gi gk (Nat.le_refl _) (gs_set gq gi gk (Nat.le_refl _) (by assumption))) (first
          | (go_at_call 86; refine (HGG.out _ (by first | exact hS0.2.2.2.2.2.2.2 | exact (gs_alloc _ hS0).2.2.2.2.2.2.2)).mono ?_; rintro e w5 ⟨rfl, n5⟩; have hS5 := gs_on (by first | exact hS0 | exact gs_alloc _ hS0) n5; try (have f0 := newb0 n5; have f1 := newb1 n5; have f2 := newf0 n5; have f3 := newf1 n5))
          | fail)
        · have nW : Below wk.heap.size wk (w5.alloc (.cells #[.int .i64 x1, .string GB] 71)) := (gs_alloc _ hS5).2.2.2.2.2.2.2
          have p0 : (w5.alloc (.cells #[.int .i64 x1, .string GB] 71)).cell? ⟨w5.heap.size, 0, none⟩ = some (.int .i64 x1) := by simp
          have p1 : (w5.alloc (.cells #[.int .i64 x1, .string GB] 71)).cell? ⟨w5.heap.size, 1, none⟩ = some (.string GB) := by simp
          clear hS5
          generalize (w5.alloc (.cells #[.int .i64 x1, .string GB] 71)) = W3 at *
          generalize w5.heap.size = pb at *
          have K3 := Lib.hid (HK2.out.on nW)
          have P3 := Lib.hid (P2.out.on nW)
          have D3 := Lib.hid (d2.out.trans (nW.mono (hq0 ▸ d2.out.size)))
          obtain ⟨t0, t1, t2, t3, t4, t5, t6⟩ := I2.out.on nW
          clear hS0 HS0 HGG nW KR
          go_wp2_with fail
          have hlk := (P3.out.on (Below.refl _ _).drew).look HPL.out
          have HOK0 := HOK.out x1 GB
          have HUP := Lib.hid (fun W (n : Below W3.drew.heap.size W3.drew W) => ((P3.out.on (Below.refl _ _).drew).on n).store hkm HST.out HPL.out (c := ⟨c1, c2, c3, c4, c5⟩) (Int.not_lt.2 HCN.out))
          generalize hgc : gotC (look (M (List.take k S)) x1 GB) = gc at *
          obtain ⟨g1, g2, g3, g4, g5⟩ := gc
          unfold cV at hlk
          simp only at hlk
          refine wp_region_held_drew (S := (fun w' => w'.cell? ⟨pb, 0, none⟩ = some (.int .i64 x1) ∧ w'.cell? ⟨pb, 1, none⟩ = some (.string GB) ∧ w'.cell? ⟨i0, 2, none⟩ = some (.int .i64 c1) ∧ w'.cell? ⟨i0, 3, none⟩ = some (.int .i64 c2) ∧ w'.cell? ⟨i0, 4, none⟩ = some (.bool c3) ∧ w'.cell? ⟨i0, 5, none⟩ = some (.int .i64 c4) ∧ w'.cell? ⟨i0, 6, none⟩ = some (.int .i64 c5))) (by kernel_rfl) ⟨p0, p1, t2, t3, t4, t5, t6⟩ (fun hHeld => ?_)
          clear p0 p1 t0 t1 t2 t3 t4 t5 t6
          refine wpAnyH_take (i := 0) (oi := { dst := some 33, op := Op.move (Operand.tmp 5), type := 68, pos := "row.go:88", after := #[], guard := none }) (v := ?_) rfl (by kernel_rfl) (by kernel_rfl) (by kernel_rfl) (fun _ _ _ h => h) (Or.inl ⟨by rfl, ?_⟩) hHeld ?_
          rotate_left
          · intro w hSw
            (try dsimp only at hSw)
            go_simp
            (try with_reducible rfl)
          (try simp only [Act.put, List.setIfInBounds_toArray, List.set_cons_zero, List.set_cons_succ])
          refine wpAnyH_take (i := 1) (oi := { dst := some 34, op := Op.load 71 (Operand.tmp 10), type := 71, pos := "row.go:88", after := #[], guard := none }) (v := ?_) rfl (by kernel_rfl) (by kernel_rfl) (by kernel_rfl) (fun _ _ _ h => h) (Or.inl ⟨by rfl, ?_⟩) hHeld ?_
          rotate_left
          · intro w hSw
            (try dsimp only at hSw)
            go_simp
            (try with_reducible rfl)
          (try simp only [Act.put, List.setIfInBounds_toArray, List.set_cons_zero, List.set_cons_succ])
          refine wpAnyH_take (i := 2) (oi := { dst := some 35, op := Op.move (Operand.tmp 5), type := 68, pos := "row.go:88", after := #[], guard := none }) (v := ?_) rfl (by kernel_rfl) (by kernel_rfl) (by kernel_rfl) (fun _ _ _ h => h) (Or.inl ⟨by rfl, ?_⟩) hHeld ?_
          rotate_left
          · intro w hSw
            (try dsimp only at hSw)
            go_simp
            (try with_reducible rfl)
          (try simp only [Act.put, List.setIfInBounds_toArray, List.set_cons_zero, List.set_cons_succ])
          refine wpAnyH_take (i := 3) (oi := { dst := some 36, op := Op.load 71 (Operand.tmp 10), type := 71, pos := "row.go:88", after := #[], guard := none }) (v := ?_) rfl (by kernel_rfl) (by kernel_rfl) (by kernel_rfl) (fun _ _ _ h => h) (Or.inl ⟨by rfl, ?_⟩) hHeld ?_
          rotate_left
          · intro w hSw
            (try dsimp only at hSw)
            go_simp
            (try with_reducible rfl)
          (try simp only [Act.put, List.setIfInBounds_toArray, List.set_cons_zero, List.set_cons_succ])
          refine wpAnyH_take (i := 5) (oi := { dst := some 38, op := Op.fieldAddr 50 (Operand.tmp 7) 2, type := 0, pos := "row.go:88", after := #[], guard := none }) (v := ?_) rfl (by kernel_rfl) (by kernel_rfl) (by kernel_rfl) (fun _ _ _ h => h) (Or.inl ⟨by rfl, ?_⟩) hHeld ?_
          rotate_left
          · intro w hSw
            (try dsimp only at hSw)
            go_simp
            (try with_reducible rfl)
          (try simp only [Act.put, List.setIfInBounds_toArray, List.set_cons_zero, List.set_cons_succ])
          refine wpAnyH_take (i := 6) (oi := { dst := some 39, op := Op.load 48 (Operand.tmp 38), type := 48, pos := "row.go:88", after := #[{ on := 5, ground := Ground.data }], guard := none }) (v := ?_) rfl (by kernel_rfl) (by kernel_rfl) (by kernel_rfl) (fun _ _ _ h => h) (Or.inl ⟨by rfl, ?_⟩) hHeld ?_
          rotate_left
          · intro w hSw
            (try dsimp only at hSw)
            go_simp
            (try with_reducible rfl)
          (try simp only [Act.put, List.setIfInBounds_toArray, List.set_cons_zero, List.set_cons_succ])
          refine wpAnyH_ready (rs := [4]) (by kernel_rfl) (by simp) ?_
          refine AllReadyH.cons (o := { dst := some 37, op := Op.lookup 68 (Operand.tmp 35) (Operand.tmp 36) false, type := 48, pos := "row.go:88", after := #[{ on := 2, ground := Ground.data }, { on := 3, ground := Ground.data }], guard := none }) rfl (fun K hK => ?_) AllReadyH.nil
          go_simp
          refine hK.out _ _ hHeld (fun hHeld => ?_)
          clear hK K
          (try simp only [Act.put, List.setIfInBounds_toArray, List.set_cons_zero, List.set_cons_succ])
          refine wpAnyH_ready (rs := [7]) (by kernel_rfl) (by simp) ?_
          refine AllReadyH.cons (o := { dst := some 40, op := Op.buildSlice 154 2 #[(0, Operand.tmp 37), (1, Operand.tmp 39)], type := 154, pos := "row.go:88", after := #[{ on := 4, ground := Ground.data }, { on := 6, ground := Ground.data }], guard := none }) rfl (fun K hK => ?_) AllReadyH.nil
          go_simp
          have nA := aBelow W3 (.cells #[.int .i64 g1, .int .i64 g2, .bool g3, .int .i64 g4, .int .i64 g5, .int .i64 c1, .int .i64 c2, .bool c3, .int .i64 c4, .int .i64 c5] 48)
          have hCA := cat_new W3 ⟨g1, g2, g3, g4, g5⟩ ⟨c1, c2, c3, c4, c5⟩ 48
          simp only at hCA
          have HMG := Lib.hid (Ce.merge_any (some ⟨W3.heap.size, 0, none⟩) 2 [⟨g1, g2, g3, g4, g5⟩, ⟨c1, c2, c3, c4, c5⟩] _ (hCA.on (Below.refl _ _).drew) (by
            intro x hx
            simp only [List.mem_cons, List.not_mem_nil, or_false] at hx
            rcases hx with rfl | rfl
            · exact HOK0
            · exact HY.out) (by simp))
          have nA2 : Below W3.drew.heap.size W3.drew (W3.alloc (.cells #[.int .i64 g1, .int .i64 g2, .bool g3, .int .i64 g4, .int .i64 g5, .int .i64 c1, .int .i64 c2, .bool c3, .int .i64 c4, .int .i64 c5] 48)).drew := drew2 nA
          have S7 := hs7_on hHeld nA2
          clear hCA nA
          generalize hWA : (W3.alloc (.cells #[.int .i64 g1, .int .i64 g2, .bool g3, .int .i64 g4, .int .i64 g5, .int .i64 c1, .int .i64 c2, .bool c3, .int .i64 c4, .int .i64 c5] 48)).drew = WA at *
          clear hHeld
          refine hK.out _ _ S7 (fun hHeld => ?_)
          clear hK K
          (try simp only [Act.put, List.setIfInBounds_toArray, List.set_cons_zero, List.set_cons_succ])
          refine wpAnyH_ready (rs := [8]) (by kernel_rfl) (by simp) ?_
          refine AllReadyH.cons (o := { dst := some 41, op := Op.call { callee := Callee.value (Operand.func 87), args := #[Operand.tmp 40], argTypes := #[154] }, type := 48, pos := "row.go:88", after := #[{ on := 7, ground := Ground.data }], guard := none }) rfl (fun K hK => ?_) AllReadyH.nil
          go_simp
          refine (HMG.out).mono ?_
          rintro e w6 ⟨rfl, n6⟩
          have S8 := hs7_on hHeld n6
          have n36 : Below W3.drew.heap.size W3.drew w6 := nA2.trans (n6.mono nA2.size)
          obtain ⟨w7, hup, hm7, hg7⟩ := HUP.out w6 n36
          have S9 := hs7_far S8 ((P3.out.on (Below.refl _ _).drew).on n36) hg7
          unfold cV at hup
          clear HMG hHeld
          refine hK.out _ _ S8 (fun hHeld => ?_)
          clear hK K
          (try simp only [Act.put, List.setIfInBounds_toArray, List.set_cons_zero, List.set_cons_succ])
          refine wpAnyH_ready (rs := [9]) (by kernel_rfl) (by simp) ?_
          refine AllReadyH.cons (o := { dst := none, op := Op.mapUpdate 68 (Operand.tmp 33) (Operand.tmp 34) (Operand.tmp 41), type := 0, pos := "row.go:88", after := #[{ on := 0, ground := Ground.data }, { on := 1, ground := Ground.data }, { on := 8, ground := Ground.data }, { on := 8, ground := Ground.chain }, { on := 0, ground := Ground.phase }, { on := 1, ground := Ground.phase }, { on := 2, ground := Ground.phase }, { on := 3, ground := Ground.phase }, { on := 4, ground := Ground.phase }, { on := 5, ground := Ground.phase }, { on := 6, ground := Ground.phase }, { on := 7, ground := Ground.phase }, { on := 8, ground := Ground.phase }], guard := none }) rfl (fun K hK => ?_) AllReadyH.nil
          go_simp
          refine hK.out _ _ S9 (fun hHeld => ?_)
          clear hK K
          (try simp only [Act.put, List.setIfInBounds_toArray, List.set_cons_zero, List.set_cons_succ])
          refine wpAnyH_done (by kernel_rfl) ?_ _
          clear hHeld S7 S8 S9 hup hlk
          have K7 := Lib.hid (((K3.out.on (Below.refl _ _).drew).on n36).far ((P3.out.on (Below.refl _ _).drew).on n36) hg7)
          have z3 : q0 ≤ W3.heap.size := hq0 ▸ D3.out.size
          have D6 : Below q0 w w6 := (D3.out.drew).trans (n36.mono z3)
          have D7 := Lib.hid (D6.grown hg7 (Nat.le_trans z3 n36.size) (fun k e => by cases e; exact Nat.le_succ _))
          have M7 : Hid (MapOf w7 (q0 + 1) (k + 1) (M (List.take (k + 1) S))) := by
            rw [← HT.out, ← HM.out, mergeP_snoc, ha, if_pos rfl, HM.out]
            unfold partOf
            rw [hGB]
            exact hm7
          clear hm7 hg7 n36 D6 nA2 n6
          subst hq0
          go_wp2_with fail
          exact ⟨⟨k + 1, by omega, by simp, M7, K7, D7⟩, by simp [intOf]; omega⟩
        · have nW : Below wk.heap.size wk ((w5.setCell ⟨wk.heap.size, 0, none⟩ (.int .i64 x1)).setCell ⟨wk.heap.size, 1, none⟩ (.string GB)) := (gs_set gq gi gk (Nat.le_refl _) (gs_set gq gi gk (Nat.le_refl _) hS5)).2.2.2.2.2.2.2
          have p0 : ((w5.setCell ⟨wk.heap.size, 0, none⟩ (.int .i64 x1)).setCell ⟨wk.heap.size, 1, none⟩ (.string GB)).cell? ⟨wk.heap.size, 0, none⟩ = some (.int .i64 x1) := by simp [go_sem, f0]
          have p1 : ((w5.setCell ⟨wk.heap.size, 0, none⟩ (.int .i64 x1)).setCell ⟨wk.heap.size, 1, none⟩ (.string GB)).cell? ⟨wk.heap.size, 1, none⟩ = some (.string GB) := by simp [go_sem, f1]
          clear hS5 f0 f1 f2 f3
          generalize ((w5.setCell ⟨wk.heap.size, 0, none⟩ (.int .i64 x1)).setCell ⟨wk.heap.size, 1, none⟩ (.string GB)) = W3 at *
          generalize wk.heap.size = pb at p0 p1 ⊢
          have K3 := Lib.hid (HK2.out.on nW)
          have P3 := Lib.hid (P2.out.on nW)
          have D3 := Lib.hid (d2.out.trans (nW.mono (hq0 ▸ d2.out.size)))
          obtain ⟨t0, t1, t2, t3, t4, t5, t6⟩ := I2.out.on nW
          clear hS0 HS0 HGG nW KR
          go_wp2_with fail
          have hlk := (P3.out.on (Below.refl _ _).drew).look HPL.out
          have HOK0 := HOK.out x1 GB
          have HUP := Lib.hid (fun W (n : Below W3.drew.heap.size W3.drew W) => ((P3.out.on (Below.refl _ _).drew).on n).store hkm HST.out HPL.out (c := ⟨c1, c2, c3, c4, c5⟩) (Int.not_lt.2 HCN.out))
          generalize hgc : gotC (look (M (List.take k S)) x1 GB) = gc at *
          obtain ⟨g1, g2, g3, g4, g5⟩ := gc
          unfold cV at hlk
          simp only at hlk
          refine wp_region_held_drew (S := (fun w' => w'.cell? ⟨pb, 0, none⟩ = some (.int .i64 x1) ∧ w'.cell? ⟨pb, 1, none⟩ = some (.string GB) ∧ w'.cell? ⟨i0, 2, none⟩ = some (.int .i64 c1) ∧ w'.cell? ⟨i0, 3, none⟩ = some (.int .i64 c2) ∧ w'.cell? ⟨i0, 4, none⟩ = some (.bool c3) ∧ w'.cell? ⟨i0, 5, none⟩ = some (.int .i64 c4) ∧ w'.cell? ⟨i0, 6, none⟩ = some (.int .i64 c5))) (by kernel_rfl) ⟨p0, p1, t2, t3, t4, t5, t6⟩ (fun hHeld => ?_)
          clear p0 p1 t0 t1 t2 t3 t4 t5 t6
          refine wpAnyH_take (i := 0) (oi := { dst := some 33, op := Op.move (Operand.tmp 5), type := 68, pos := "row.go:88", after := #[], guard := none }) (v := ?_) rfl (by kernel_rfl) (by kernel_rfl) (by kernel_rfl) (fun _ _ _ h => h) (Or.inl ⟨by rfl, ?_⟩) hHeld ?_
          rotate_left
          · intro w hSw
            (try dsimp only at hSw)
            go_simp
            (try with_reducible rfl)
          (try simp only [Act.put, List.setIfInBounds_toArray, List.set_cons_zero, List.set_cons_succ])
          refine wpAnyH_take (i := 1) (oi := { dst := some 34, op := Op.load 71 (Operand.tmp 10), type := 71, pos := "row.go:88", after := #[], guard := none }) (v := ?_) rfl (by kernel_rfl) (by kernel_rfl) (by kernel_rfl) (fun _ _ _ h => h) (Or.inl ⟨by rfl, ?_⟩) hHeld ?_
          rotate_left
          · intro w hSw
            (try dsimp only at hSw)
            go_simp
            (try with_reducible rfl)
          (try simp only [Act.put, List.setIfInBounds_toArray, List.set_cons_zero, List.set_cons_succ])
          refine wpAnyH_take (i := 2) (oi := { dst := some 35, op := Op.move (Operand.tmp 5), type := 68, pos := "row.go:88", after := #[], guard := none }) (v := ?_) rfl (by kernel_rfl) (by kernel_rfl) (by kernel_rfl) (fun _ _ _ h => h) (Or.inl ⟨by rfl, ?_⟩) hHeld ?_
          rotate_left
          · intro w hSw
            (try dsimp only at hSw)
            go_simp
            (try with_reducible rfl)
          (try simp only [Act.put, List.setIfInBounds_toArray, List.set_cons_zero, List.set_cons_succ])
          refine wpAnyH_take (i := 3) (oi := { dst := some 36, op := Op.load 71 (Operand.tmp 10), type := 71, pos := "row.go:88", after := #[], guard := none }) (v := ?_) rfl (by kernel_rfl) (by kernel_rfl) (by kernel_rfl) (fun _ _ _ h => h) (Or.inl ⟨by rfl, ?_⟩) hHeld ?_
          rotate_left
          · intro w hSw
            (try dsimp only at hSw)
            go_simp
            (try with_reducible rfl)
          (try simp only [Act.put, List.setIfInBounds_toArray, List.set_cons_zero, List.set_cons_succ])
          refine wpAnyH_take (i := 5) (oi := { dst := some 38, op := Op.fieldAddr 50 (Operand.tmp 7) 2, type := 0, pos := "row.go:88", after := #[], guard := none }) (v := ?_) rfl (by kernel_rfl) (by kernel_rfl) (by kernel_rfl) (fun _ _ _ h => h) (Or.inl ⟨by rfl, ?_⟩) hHeld ?_
          rotate_left
          · intro w hSw
            (try dsimp only at hSw)
            go_simp
            (try with_reducible rfl)
          (try simp only [Act.put, List.setIfInBounds_toArray, List.set_cons_zero, List.set_cons_succ])
          refine wpAnyH_take (i := 6) (oi := { dst := some 39, op := Op.load 48 (Operand.tmp 38), type := 48, pos := "row.go:88", after := #[{ on := 5, ground := Ground.data }], guard := none }) (v := ?_) rfl (by kernel_rfl) (by kernel_rfl) (by kernel_rfl) (fun _ _ _ h => h) (Or.inl ⟨by rfl, ?_⟩) hHeld ?_
          rotate_left
          · intro w hSw
            (try dsimp only at hSw)
            go_simp
            (try with_reducible rfl)
          (try simp only [Act.put, List.setIfInBounds_toArray, List.set_cons_zero, List.set_cons_succ])
          refine wpAnyH_ready (rs := [4]) (by kernel_rfl) (by simp) ?_
          refine AllReadyH.cons (o := { dst := some 37, op := Op.lookup 68 (Operand.tmp 35) (Operand.tmp 36) false, type := 48, pos := "row.go:88", after := #[{ on := 2, ground := Ground.data }, { on := 3, ground := Ground.data }], guard := none }) rfl (fun K hK => ?_) AllReadyH.nil
          go_simp
          refine hK.out _ _ hHeld (fun hHeld => ?_)
          clear hK K
          (try simp only [Act.put, List.setIfInBounds_toArray, List.set_cons_zero, List.set_cons_succ])
          refine wpAnyH_ready (rs := [7]) (by kernel_rfl) (by simp) ?_
          refine AllReadyH.cons (o := { dst := some 40, op := Op.buildSlice 154 2 #[(0, Operand.tmp 37), (1, Operand.tmp 39)], type := 154, pos := "row.go:88", after := #[{ on := 4, ground := Ground.data }, { on := 6, ground := Ground.data }], guard := none }) rfl (fun K hK => ?_) AllReadyH.nil
          go_simp
          have nA := aBelow W3 (.cells #[.int .i64 g1, .int .i64 g2, .bool g3, .int .i64 g4, .int .i64 g5, .int .i64 c1, .int .i64 c2, .bool c3, .int .i64 c4, .int .i64 c5] 48)
          have hCA := cat_new W3 ⟨g1, g2, g3, g4, g5⟩ ⟨c1, c2, c3, c4, c5⟩ 48
          simp only at hCA
          have HMG := Lib.hid (Ce.merge_any (some ⟨W3.heap.size, 0, none⟩) 2 [⟨g1, g2, g3, g4, g5⟩, ⟨c1, c2, c3, c4, c5⟩] _ (hCA.on (Below.refl _ _).drew) (by
            intro x hx
            simp only [List.mem_cons, List.not_mem_nil, or_false] at hx
            rcases hx with rfl | rfl
            · exact HOK0
            · exact HY.out) (by simp))
          have nA2 : Below W3.drew.heap.size W3.drew (W3.alloc (.cells #[.int .i64 g1, .int .i64 g2, .bool g3, .int .i64 g4, .int .i64 g5, .int .i64 c1, .int .i64 c2, .bool c3, .int .i64 c4, .int .i64 c5] 48)).drew := drew2 nA
          have S7 := hs7_on hHeld nA2
          clear hCA nA
          generalize hWA : (W3.alloc (.cells #[.int .i64 g1, .int .i64 g2, .bool g3, .int .i64 g4, .int .i64 g5, .int .i64 c1, .int .i64 c2, .bool c3, .int .i64 c4, .int .i64 c5] 48)).drew = WA at *
          clear hHeld
          refine hK.out _ _ S7 (fun hHeld => ?_)
          clear hK K
          (try simp only [Act.put, List.setIfInBounds_toArray, List.set_cons_zero, List.set_cons_succ])
          refine wpAnyH_ready (rs := [8]) (by kernel_rfl) (by simp) ?_
          refine AllReadyH.cons (o := { dst := some 41, op := Op.call { callee := Callee.value (Operand.func 87), args := #[Operand.tmp 40], argTypes := #[154] }, type := 48, pos := "row.go:88", after := #[{ on := 7, ground := Ground.data }], guard := none }) rfl (fun K hK => ?_) AllReadyH.nil
          go_simp
          refine (HMG.out).mono ?_
          rintro e w6 ⟨rfl, n6⟩
          have S8 := hs7_on hHeld n6
          have n36 : Below W3.drew.heap.size W3.drew w6 := nA2.trans (n6.mono nA2.size)
          obtain ⟨w7, hup, hm7, hg7⟩ := HUP.out w6 n36
          have S9 := hs7_far S8 ((P3.out.on (Below.refl _ _).drew).on n36) hg7
          unfold cV at hup
          clear HMG hHeld
          refine hK.out _ _ S8 (fun hHeld => ?_)
          clear hK K
          (try simp only [Act.put, List.setIfInBounds_toArray, List.set_cons_zero, List.set_cons_succ])
          refine wpAnyH_ready (rs := [9]) (by kernel_rfl) (by simp) ?_
          refine AllReadyH.cons (o := { dst := none, op := Op.mapUpdate 68 (Operand.tmp 33) (Operand.tmp 34) (Operand.tmp 41), type := 0, pos := "row.go:88", after := #[{ on := 0, ground := Ground.data }, { on := 1, ground := Ground.data }, { on := 8, ground := Ground.data }, { on := 8, ground := Ground.chain }, { on := 0, ground := Ground.phase }, { on := 1, ground := Ground.phase }, { on := 2, ground := Ground.phase }, { on := 3, ground := Ground.phase }, { on := 4, ground := Ground.phase }, { on := 5, ground := Ground.phase }, { on := 6, ground := Ground.phase }, { on := 7, ground := Ground.phase }, { on := 8, ground := Ground.phase }], guard := none }) rfl (fun K hK => ?_) AllReadyH.nil
          go_simp
          refine hK.out _ _ S9 (fun hHeld => ?_)
          clear hK K
          (try simp only [Act.put, List.setIfInBounds_toArray, List.set_cons_zero, List.set_cons_succ])
          refine wpAnyH_done (by kernel_rfl) ?_ _
          clear hHeld S7 S8 S9 hup hlk
          have K7 := Lib.hid (((K3.out.on (Below.refl _ _).drew).on n36).far ((P3.out.on (Below.refl _ _).drew).on n36) hg7)
          have z3 : q0 ≤ W3.heap.size := hq0 ▸ D3.out.size
          have D6 : Below q0 w w6 := (D3.out.drew).trans (n36.mono z3)
          have D7 := Lib.hid (D6.grown hg7 (Nat.le_trans z3 n36.size) (fun k e => by cases e; exact Nat.le_succ _))
          have M7 : Hid (MapOf w7 (q0 + 1) (k + 1) (M (List.take (k + 1) S))) := by
            rw [← HT.out, ← HM.out, mergeP_snoc, ha, if_pos rfl, HM.out]
            unfold partOf
            rw [hGB]
            exact hm7
          clear hm7 hg7 n36 D6 nA2 n6
          subst hq0
          go_wp2_with fail
          exact ⟨⟨k + 1, by omega, by simp, M7, K7, D7⟩, by simp [intOf]; omega⟩
    · have hk' : k = S.length := by omega
      subst hk'
      rw [List.take_length] at HP
      go_wp2_with fail
      refine bodyPost_ret (v := .map (some (w.heap.size + 1))) (by simp [results, Tryz.results46, go_sem]) rfl ⟨⟨_, rfl, by omega, HP.out⟩, HD.out⟩

end Go.Proofs.YtidkpalckafgkaaGreatDoor.Rw
