/-
  WireReads: the two readers side by side; what the reads leave; SameInts.
-/
import Derived.Test.YtmmjpkijnecmcaaDoorModel6
import Derived.Test.YtmmjpkijnecmcaaDoorTakeInt
import Derived.Test.YtmmjpkijnecmcaaDoorScript
import Derived.Test.YtmmjpkijnecmcaaDoorBackPure
import Derived.OwnWalk
import Derived.Test.YtmmjpkijnecmcaaDoorNbW
namespace Go.Proofs.YtmmjpkijnecmcaaDoor
open Go.RowKit

/-! ### append of one element that is one cell -/
theorem wpList_push {P : Program} {w0 : World} {ops : Array Oper} {rest : List Oper} {o : Oper} {a : Act} {Q : Exit → Act → World → Prop} (hgd : o.guard = none) (s x : Operand) (t : TypeId)
    (ho : o.op = .call { callee := .builtin .append, args := #[s, x], argTypes := #[t, t] }) (base : Nat) (e e0 : TypeId) (i : TypeInfo) (z : Value) (bytes : Nat) (ht : P.underlying t = some (.slice e)) (hi : P.info? e = some i) (hz : i.zero = some z) (hsize : i.size = 1) (hby : i.bytes = bytes) (hzs : z.cells.size = 1)
    (v : Value) (n : Nat) (xs : List Value) (hs : a.eval s = v) (hown : w0.ownsRow base e 1 v n xs) (u : Value) (hu1 : u.oneCell' = true) (hx : a.eval x = .slice (some ⟨w0.heap.size, 0, none⟩) 1 1) (hn : n ≤ 1000000) (hb : bytes ≤ 1000) (hbase : base ≤ w0.heap.size)
    (h : ∀ v' w', w'.ownsRow base e 1 v' (n + 1) (xs ++ [u]) → w0.grownBy w' v.ownBlock → wpList P ops Q rest (a.put o.dst v') w') : wpList P ops Q (o :: rest) a (w0.alloc (.cells #[u] e0)) := by
  refine wpList_append_own _ hgd s x t ho base e i z 1 bytes ht hi hz hsize hby hzs (by omega) v n xs hs (hown.alloc _) ⟨w0.heap.size, 0, none⟩ 1 1 [u] hx rfl (fun j y hy => ?_) (by simp [hu1]) (by simp only [maxLen]; omega) (by
    have := Nat.mul_le_mul (show n + 1 ≤ 1000001 by omega) hb
    omega) (by rw [World.size_alloc]; omega) (fun v' w' h1 h2 _ => h v' w' h1 (grown_trans (World.grownBy_alloc w0 _ _) h2))
  have : j = 0 := by
    have := (List.getElem?_eq_some_iff.1 hy).1
    simp at this
    omega
  subst this
  have h1 := (Blk.new w0 e0 #[u]).cell 0
  rw [show (⟨w0.heap.size, 0, none⟩ : Addr).add 0 = ⟨w0.heap.size, 0, none⟩ by simp [Addr.add], h1]
  simpa using hy
/-! ### what is left is small -/
def Gd (p : Nat × List UInt8) : Prop := p.1 ≤ 18 ∧ p.2.length ≤ 1000
theorem gd_num {width : Int} {e : Nat} {l : List UInt8} (h : Gd (e, l)) : Gd (pNum width e l).2 := by
  obtain ⟨h1, h2⟩ := h
  simp only at h1 h2
  unfold pNum
  repeat' split
  all_goals (refine ⟨?_, ?_⟩ <;> simp <;> omega)
theorem gd_most {width most : Int} {e : Nat} {l : List UInt8} (h : Gd (e, l)) : Gd (pMost width most e l).2 := by
  obtain ⟨h1, h2⟩ := gd_num (width := width) h
  unfold pMost
  refine ⟨?_, h2⟩
  simp only
  split <;> omega
theorem gd_flag {e : Nat} {l : List UInt8} (h : Gd (e, l)) : Gd (pFlag e l).2 := by
  obtain ⟨h1, h2⟩ := gd_num (width := 1) h
  unfold pFlag
  refine ⟨?_, h2⟩
  simp only
  split <;> omega
theorem gd_fixed {n : Int} {e : Nat} {l : List UInt8} (h : Gd (e, l)) : Gd (pFixed n e l).2 := by
  obtain ⟨h1, h2⟩ := h
  simp only at h1 h2
  unfold pFixed
  repeat' split
  all_goals (refine ⟨?_, ?_⟩ <;> simp <;> omega)
theorem gd_bytes {most : Int} {e : Nat} {l : List UInt8} (h : Gd (e, l)) : Gd (pBytes most e l).2 := by
  have := gd_most (width := 2) (most := most) h
  unfold pBytes
  exact gd_fixed this
theorem gd_many : ∀ (k e : Nat) (l : List UInt8), Gd (e, l) → Gd (pMany k e l).2
  | 0, _, _, h => h
  | k + 1, e, l, h => by
    unfold pMany
    split
    · exact h
    · exact gd_many k _ _ (gd_num h)
theorem gd_take {most : Int} {e : Nat} {l : List UInt8} (h : Gd (e, l)) : Gd (pTake most e l).2 := by
  have := gd_most (width := 1) (most := most) h
  unfold pTake
  exact gd_many _ _ _ this

/-! ### SameInts -/
def NatsAt (w : World) (A : Option Addr) (xs : List Nat) : Prop := xs ≠ [] → ∃ g, A = some ⟨g, 0, none⟩ ∧ ∀ j (_ : j < xs.length), w.cell? ⟨g, j, none⟩ = some (.int .i64 (xs[j] : Nat))
theorem own_ints {w : World} {base : Nat} {A : Option Addr} {n c : Nat} {xs : List Nat} (h : w.ownsRow base 3 1 (.slice A n c) n (cells_int xs)) : NatsAt w A xs := fun hl => by
  have hn : xs.length = n := by have := h.1; simpa [cells_int] using this
  obtain ⟨g, cap, hv⟩ := Joins.ownsRow_form h (by have := List.length_pos_iff.2 hl; omega)
  have hA : A = some ⟨g, 0, none⟩ := by injection hv
  refine ⟨g, hA, fun j hj => ?_⟩
  have := h.cells (g := g) (by rw [hv]; rfl) j (.int .i64 (xs[j] : Nat)) (by simp [cells_int, List.getElem?_eq_getElem hj])
  rwa [add_none, Nat.zero_add] at this
theorem NatsAt.kept {w w' : World} {F : Nat → Prop} {A : Option Addr} {xs : List Nat} (h : NatsAt w A xs) (hk : Kept F w w') (hA : ∀ ad, A = some ad → ¬ F ad.block) : NatsAt w' A xs := fun hl => by
  obtain ⟨g, rfl, hc⟩ := h hl
  exact ⟨g, rfl, fun j hj => hk.cell (hc j hj) (hA ⟨g, 0, none⟩ rfl)⟩
set_option maxRecDepth 100000 in
theorem sameints_is (w : World) (A1 A2 : Option Addr) (c1 c2 n : Nat) (xs : List Nat) (hn : xs.length = n) (hnb : n ≤ 1000000) (h1 : NatsAt w A1 xs) (h2 : NatsAt w A2 xs) :
    Calls Tryd.prog 56 #[.slice A1 n c1, .slice A2 n c2] w fun e w' => e = .returned (.bool true) ∧ w.grownBy w' none := by
  have H1 := Lib.hid h1
  have H2 := Lib.hid h2
  have HN := Lib.hid hn
  clear h1 h2 hn
  go_enter Tryd.func56, Tryd.ntmps56
  go_wp2_with fail
  go_loopw [13] (fun i wr => ∃ k : Nat, k ≤ n ∧ i = .int .i64 (k : Int) ∧ w.grownBy wr none) (fun i _ => n - (intOf i).toNat)
  case atStart => exact ⟨0, by omega, rfl, World.grownBy.refl w none⟩
  case round =>
    obtain ⟨k, hk, hi, hK⟩ := hrel
    obtain ⟨I, hI⟩ : ∃ I : Int, I = (k : Int) := ⟨_, rfl⟩
    rw [← hI] at hi
    subst hi
    by_cases hlt : k < n
    · have d1 : decide (I < (n : Int)) = true := by simp; omega
      have hkx : k < xs.length := by have := HN.out; omega
      obtain ⟨g1, rfl, q1⟩ := H1.out (by rintro rfl; simp at hkx)
      obtain ⟨g2, rfl, q2⟩ := H2.out (by rintro rfl; simp at hkx)
      obtain ⟨x, hx⟩ : ∃ x : Int, x = ((xs[k] : Nat) : Int) := ⟨_, rfl⟩
      have hkI : I.toNat = k := by omega
      have b1 : wr.cell? ⟨g1, I.toNat, none⟩ = some (.int .i64 x) := by rw [hkI, hx]; exact hK.cell (q1 k hkx) (by simp)
      have b2 : wr.cell? ⟨g2, I.toNat, none⟩ = some (.int .i64 x) := by rw [hkI, hx]; exact hK.cell (q2 k hkx) (by simp)
      have hI68 : 0 ≤ I ∧ I < (n : Int) := by omega
      have HI := Lib.hid (And.intro hI hlt)
      have HG := Lib.hid hK
      clear hI hlt hkI hx hK hk q1 q2 hkx
      go_wp2_with fail
      go_quiet (fail)
      go_wp2_with fail
      go_roundw
      case rel =>
        obtain ⟨hI, hlt⟩ := HI.out
        exact ⟨k + 1, by omega, by rw [hI]; go_num, ⟨HG.out.os, HG.out.tape, HG.out.output, HG.out.size, HG.out.block⟩⟩
      case measure => obtain ⟨hI, hlt⟩ := HI.out; simp [intOf]; omega
    · have d1 : decide (I < (n : Int)) = false := by simp; omega
      have HG := Lib.hid hK
      clear hlt hI hK hk
      go_wp2_with fail
      go_ret
      exact ⟨rfl, HG.out⟩

/-! ### two readers -/
theorem MdEnd.kept {w w' : World} {F : Nat → Prop} {m : Nat} {A : Option Addr} {c : Nat} {b : List UInt8} {e : Nat} {l : List UInt8} (h : MdEnd w m A c b e l) (hk : Kept F w w') (hm : ¬ F m) (hA : ∀ ad, A = some ad → b ≠ [] → ¬ F ad.block) : MdEnd w' m A c b e l := by
  obtain ⟨k, h1, h2⟩ := h
  exact ⟨k, h1.kept hk hm hA, h2⟩
/-- The program's reader at g, the document's at m: the first error's number e, the bytes l left. -/
structure RS (w : World) (B g s m : Nat) (E : Nat → Addr) (A : Option Addr) (c : Nat) (b : List UInt8) (e : Nat) (l : List UInt8) : Prop where
  rd : RdIs w g s (evOf E e) l
  md : MdEnd w m A c b e l
  er : ErrVars [0, 1, 3, 9] w B E
  gd : Gd (e, l)
  gm : g ≠ m
  sm : s ≠ m
  bg : B ≤ g
  bm : B ≤ m
  lt : g < w.heap.size ∧ m < w.heap.size ∧ s < w.heap.size
  bl : b.length ≤ 1000
  ab : ∀ ad, A = some ad → b ≠ [] → ad.block ≠ g
section
variable {w w1 w5 w6 : World} {B g s m : Nat} {E : Nat → Addr} {A : Option Addr} {c : Nat} {b : List UInt8} {e e1 : Nat} {l l1 : List UInt8}
theorem RS.old (h : RS w B g s m E A c b e l) (hk : Kept (fun _ => False) w w1) : RS w1 B g s m E A c b e l :=
  ⟨h.rd.kept hk (fun h => h) (fun h => h), h.md.kept hk (fun h => h) (fun _ _ _ h => h), h.er.kept hk (fun _ h => h.elim), h.gd, h.gm, h.sm, h.bg, h.bm, ⟨Nat.lt_of_lt_of_le h.lt.1 hk.size, Nat.lt_of_lt_of_le h.lt.2.1 hk.size, Nat.lt_of_lt_of_le h.lt.2.2 hk.size⟩, h.bl, h.ab⟩
theorem kept_g (k5 : w.grownBy w5 (some g)) : Kept (fun j => j = g) w w5 := Kept.of_grown (F := fun j => j = g) k5 fun j e => by injection e with e; exact e.symm
theorem RS.first (h : RS w B g s m E A c b e l) (k5 : w.grownBy w5 (some g)) : MdEnd w5 m A c b e l :=
  h.md.kept (kept_g k5) (fun e => h.gm e.symm) (fun ad e hne => h.ab ad e hne)
theorem RS.both (h : RS w B g s m E A c b e l) (hr5 : RdIs w5 g s (evOf E e1) l1) (k5 : w.grownBy w5 (some g)) (hm6 : MdEnd w6 m A c b e1 l1) (k6 : Kept (fun j => j = m) w5 w6) (hg : Gd (e1, l1)) :
    RS w6 B g s m E A c b e1 l1 ∧ Kept (fun j => j = g ∨ j = m) w w6 := by
  have K : Kept (fun j => j = g ∨ j = m) w w6 := ((kept_g k5).mono (G := fun j => j = g ∨ j = m) (fun _ _ h => .inl h)).follow k6 (fun _ _ h => .inr h)
  exact ⟨⟨hr5.kept k6 h.gm h.sm, hm6, h.er.kept K (fun j hj => by have := h.bg; have := h.bm; rcases hj with h | h <;> omega), hg, h.gm, h.sm, h.bg, h.bm, ⟨Nat.lt_of_lt_of_le h.lt.1 K.size, Nat.lt_of_lt_of_le h.lt.2.1 K.size, Nat.lt_of_lt_of_le h.lt.2.2 K.size⟩, h.bl, h.ab⟩, K⟩
end
/-- What a read leaves. -/
def RSP (w w' : World) (B g s m : Nat) (E : Nat → Addr) (A : Option Addr) (c : Nat) (b : List UInt8) : Prop := ∃ e' l', RS w' B g s m E A c b e' l' ∧ Kept (fun j => j = g ∨ j = m) w w'
theorem RSP.of {w w1 w' : World} {B g s m : Nat} {E : Nat → Addr} {A : Option Addr} {c : Nat} {b : List UInt8} {e' : Nat} {l' : List UInt8} (hk : Kept (fun _ => False) w w1) (h : RS w' B g s m E A c b e' l' ∧ Kept (fun j => j = g ∨ j = m) w1 w') : RSP w w' B g s m E A c b :=
  ⟨e', l', h.1, (hk.mono (G := fun j => j = g ∨ j = m) (fun _ _ h => h.elim)).follow h.2 (fun _ _ h => h)⟩
end Go.Proofs.YtmmjpkijnecmcaaDoor
