/- What the program's own functions of shards are held to. -/
import Derived.Test.YthiofbohllmfbaaSE
namespace Go.Proofs.Ythiofbohllmfbaa.Sh
open Go Go.RowKit Go.Sort Go.Lib Cl Ce Ch

def okE (e : Ent) : Prop := e.vs.length ≤ 500 ∧ e.key.size ≤ 1000 ∧ ok64 e.win ∧ ∀ y ∈ e.vs, okV y
def okS (l : List Ent) : Prop := l.length ≤ 200 ∧ ∀ e ∈ l, okE e
def wriV (x : Wri) : Value := .agg #[.int .i64 x.st, .int .i64 x.win, .string x.key, .int .i64 x.val]
def okW (x : Wri) : Prop := ok64 x.st ∧ ok64 x.win ∧ ok64 x.val ∧ x.key.size ≤ 1000
/-- The program's own answers are those of the plain functions. -/
structure Own11 : Prop where
  apply : ∀ (v : Value) (l : List Ent) (x : Wri) (w : World), SRow w v l → okS l → okW x → Calls Try.prog 11 #[.agg #[v], wriV x] w fun e w' => (∃ v', e = .returned (.tuple #[.agg #[v'], .int .i64 (applyS l x).2]) ∧ SRow w' v' (applyS l x).1) ∧ Below w.heap.size w w'
  right : ∀ (v : Value) (l : List Ent) (w : World), SRow w v l → okS l → Calls Try.prog 14 #[.agg #[v]] w fun e w' => e = .returned (.bool (sright l)) ∧ Below w.heap.size w w'
  read : ∀ (v vd : Value) (l : List Ent) (s : Int) (ds : List Drp) (w : World), SRow w v l → DRow w vd ds → okS l → ds.length ≤ 1000 → Calls Try.prog 16 #[.agg #[v], .int .i64 s, vd] w fun e w' => (∃ v', e = .returned v' ∧ IRow w' v' (readS l s ds)) ∧ Below w.heap.size w w'
  size : ∀ (v : Value) (l : List Ent) (w : World), SRow w v l → okS l → Calls Try.prog 19 #[.agg #[v]] w fun e w' => e = .returned (.int .i64 (sizeS l)) ∧ Below w.heap.size w w'
  prune : ∀ (v vd : Value) (l : List Ent) (f : Int) (ds : List Drp) (w : World), SRow w v l → DRow w vd ds → okS l → ds.length ≤ 1000 → Calls Try.prog 21 #[.agg #[v], .int .i64 f, vd] w fun e w' => (∃ v', e = .returned (.agg #[v']) ∧ SRow w' v' (pruneS l f ds)) ∧ Below w.heap.size w w'
  same : ∀ (v1 v2 : Value) (l m : List Ent) (w : World), SRow w v1 l → SRow w v2 m → okS l → okS m → Calls Try.prog 23 #[.agg #[v1], .agg #[v2]] w fun e w' => e = .returned (.bool (sameS l m)) ∧ Below w.heap.size w w'

def cpu : ByteArray := ⟨#[99, 112, 117]⟩
def c3 : Cell := ⟨1, 3, false, 3, 3⟩
def c34 : Cell := ⟨2, 7, false, 3, 4⟩
def exS : List Ent := [⟨0, cpu, [⟨1, c3⟩]⟩]
def exT : List Ent := [⟨0, cpu, [⟨1, c3⟩, ⟨2, c34⟩]⟩]
def exP : List Ent := [⟨0, cpu, [⟨2, c34⟩]⟩]
def it7 : List Itm := [⟨0, cpu, c34⟩]
def it3 : List Itm := [⟨0, cpu, c3⟩]
def dr2 : List Drp := [⟨0, 2⟩]
theorem s1 : applyS [] ⟨1, 0, cpu, 3⟩ = (exS, 0) := by kernel_rfl
theorem s2 : applyS exS ⟨2, 0, cpu, 4⟩ = (exT, 0) := by kernel_rfl
theorem s3 : applyS exT ⟨2, 0, cpu, 0⟩ = ([], 9) := by kernel_rfl
theorem s4 : readS exT 2 [] = it7 := by kernel_rfl
theorem s5 : pruneS exT 2 [] = exP := by kernel_rfl
theorem s6 : pruneS exT 2 dr2 = [] := by kernel_rfl
theorem s7 : readS exT 2 dr2 = [] := by kernel_rfl
theorem s8 : readS exT 1 dr2 = it3 := by kernel_rfl
theorem s9 : sizeS exT = 2 := by kernel_rfl
theorem sa : sizeS exP = 1 := by kernel_rfl
theorem sb : sizeS [] = 0 := by kernel_rfl
theorem sc : sright exT = true := by kernel_rfl
theorem sd : sameS exT exT = true := (sameS_true _ _).2 rfl
theorem se : sameS exS exT = false := by kernel_rfl
theorem ok_c3 : okC c3 := by refine ⟨⟨?_, ?_⟩, ⟨?_, ?_⟩, ⟨?_, ?_⟩, ?_, ?_⟩ <;> decide
theorem ok_c34 : okC c34 := by refine ⟨⟨?_, ?_⟩, ⟨?_, ?_⟩, ⟨?_, ?_⟩, ?_, ?_⟩ <;> decide
theorem okS_nil : okS [] := ⟨by decide, fun e he => by simp at he⟩
theorem ok64_0 : ok64 0 := ⟨by decide, by decide⟩
theorem okS_S : okS exS := ⟨by decide, fun e he => by
  simp [exS] at he; subst he
  exact ⟨by decide, by decide, ok64_0, fun y hy => by simp at hy; subst hy; exact ⟨⟨by decide, by decide⟩, ok_c3⟩⟩⟩
theorem okS_T : okS exT := ⟨by decide, fun e he => by
  simp [exT] at he; subst he
  exact ⟨by decide, by decide, ok64_0, fun y hy => by
    simp at hy
    rcases hy with rfl | rfl
    · exact ⟨⟨by decide, by decide⟩, ok_c3⟩
    · exact ⟨⟨by decide, by decide⟩, ok_c34⟩⟩⟩
theorem okS_P : okS exP := ⟨by decide, fun e he => by
  simp [exP] at he; subst he
  exact ⟨by decide, by decide, ok64_0, fun y hy => by simp at hy; subst hy; exact ⟨⟨by decide, by decide⟩, ok_c34⟩⟩⟩
theorem okW_any {a b : Int} (ha : ok64 a) (hb : ok64 b) : okW ⟨a, 0, cpu, b⟩ := ⟨ha, ok64_0, hb, show cpu.size ≤ 1000 by decide⟩
theorem drow_new (w : World) : DRow (w.alloc (.cells #[.int .i64 0, .int .i64 2] 39)) (.slice (some ⟨w.heap.size, 0, none⟩) 1 1) dr2 := by
  refine ⟨_, 1, rfl, Nat.le_refl _, fun _ => ⟨w.heap.size, 0, rfl, by simp, ?_⟩⟩
  intro i hi j u hu
  have : i = 0 := by simpa [dr2] using hi
  subst this
  have e : (drpC ⟨0, 2⟩)[j]? = some u := hu
  rw [Nat.zero_mul, Nat.zero_add, cell_of_row _ w.heap.size j #[.int .i64 0, .int .i64 2] 39 (0, 0) (heap_alloc_new _ _)]
  simpa [drpC] using e
end Go.Proofs.Ythiofbohllmfbaa.Sh
