/-
  ScriptJoins.
-/
import Derived.Test.YtonkdcbmmdhjgaaGreatDoorScU
namespace Go.Proofs.YtonkdcbmmdhjgaaGreatDoor
open Go.RowKit Go.Shelf

/-- The library's variables and the two errors. -/
structure Env3 (w : World) (EL EF : Addr) : Prop where
  env : ScEnv w
  long : ErrAt w w.heap.size 3 EL
  form : ErrAt w w.heap.size 0 EF
theorem Env3.gr {w w' : World} {EL EF : Addr} (h : Env3 w EL EF) (g : w.grownBy w' none) : Env3 w' EL EF :=
  ⟨h.env.grown g, ⟨g.cell h.long.1 (by simp), Nat.lt_of_lt_of_le h.long.2 g.size⟩, ⟨g.cell h.form.1 (by simp), Nat.lt_of_lt_of_le h.form.2 g.size⟩⟩
theorem cat_data (a b : ByteArray) : (a ++ b).data.toList = a.data.toList ++ b.data.toList := by simp [ByteArray.data_append]
/-- The cells of an op in a row. -/
theorem row_cells {w : World} {b off k : Nat} {x : OpM} (h : w.rangeAt b (off + k * 6) x.val.toList) :
    w.cell? ⟨b, off + k * 6, none⟩ = some (.int .i64 x.v.kind) ∧ w.cell? ⟨b, off + k * 6 + 1, none⟩ = some (.int .i64 x.v.node) ∧ w.cell? ⟨b, off + k * 6 + 2, none⟩ = some (.int .i64 x.v.n) ∧
    w.cell? ⟨b, off + k * 6 + 3, none⟩ = some (.slice x.A1 x.v.set.length x.c1) ∧ w.cell? ⟨b, off + k * 6 + 4, none⟩ = some (.slice x.A2 x.v.keep.length x.c2) ∧ w.cell? ⟨b, off + k * 6 + 5, none⟩ = some (.slice x.A3 x.v.data.length x.c3) :=
  ⟨h 0 _ rfl, h 1 _ rfl, h 2 _ rfl, h 3 _ rfl, h 4 _ rfl, h 5 _ rfl⟩
theorem range_gr {w w' : World} {b o : Nat} {cs : List Value} (h : w.rangeAt b o cs) (g : w.grownBy w' none) : w'.rangeAt b o cs := fun j v hv => g.cell (h j v hv) (by simp)
/-- Line, of an op that has one. -/
theorem line_ok (w : World) (EL EF : Addr) (he : Env3 w EL EF) (o : OpM) (ho : o.At w) (hf : o.v.Fit) (hr : rightS o.v) (v : OpV) (hv : o.v = v) :
    Calls Tryz.prog 7 #[.agg #[.int .i64 o.v.kind, .int .i64 o.v.node, .int .i64 o.v.n, .slice o.A1 o.v.set.length o.c1, .slice o.A2 o.v.keep.length o.c2, .slice o.A3 o.v.data.length o.c3]] w fun e w' => e = .returned (.tuple #[.string (strB (lineT v)), .nilIface]) ∧ w.grownBy w' none := by
  refine (line_is w he.env EF he.form o ho hf).mono ?_
  rintro e w' ⟨g, hp⟩
  rw [lineS_eq, if_pos hr] at hp
  subst hv
  exact ⟨hp, g⟩
end Go.Proofs.YtonkdcbmmdhjgaaGreatDoor
