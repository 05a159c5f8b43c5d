/-
  Pool: rows of bytes' lists that a call owns; whether a transaction is one of a list; copies of all of them.
-/
import Derived.Test.YtnhjokcjdjfijaaDoorLs
import Derived.Test.YtnhjokcjdjfijaaDoorAp
import Derived.Lib.SliceRun
import Derived.Deep.RegionLaw
namespace Go.Proofs.YtnhjokcjdjfijaaDoor
open Go.RowKit

/-! ### in -/
theorem firstI_nonneg (p : List UInt8 → Bool) : ∀ (k : Nat) (ys : List (List UInt8)), decide (0 ≤ firstI p k ys) = ys.any p
  | _, [] => by simp [firstI]
  | k, y :: ys => by
    rw [firstI, List.any_cons]
    by_cases h : p y = true
    · rw [if_pos h, h]; simp
    · have h' : p y = false := by simpa using h
      rw [if_neg h, h', firstI_nonneg p (k + 1) ys]; simp
theorem in1_is (w : World) (B : Option Addr) (d : Nat) (x : List UInt8) (bx : Nat) (Bt : Option Addr) (c : Nat) (y : List UInt8) (hx : BytesAt w B x) (hc : w.cell? ⟨bx, 0, none⟩ = some (.slice Bt y.length c)) (hy : BytesAt w Bt y) :
    Calls Tryd.prog 35 #[.slice B x.length d, .pointer (some ⟨bx, 0, none⟩)] w fun e w' => e = .returned (.bool (decide (x = y))) ∧ w' = w := by
  go_enter Tryd.func35, Tryd.ntmps35
  go_wp2_with fail
  refine (bequal_is w B Bt d c x y hx hy).mono ?_
  rintro e w1 ⟨rfl, rfl⟩
  go_wp2_with fail
  go_ret
  exact ⟨rfl, rfl⟩
theorem enter_in1 (args : Array Value) (w : World) : (callFunc 35 args).run Tryd.prog w = .ok (.enter 35 args) w := by kernel_rfl
theorem in_is (w : World) (A : Option Addr) (n c : Nat) (ys : List (List UInt8)) (hn : ys.length = n) (hnb : n ≤ 1000000) (hy : LsAt w A ys) (B : Option Addr) (d : Nat) (x : List UInt8) (hx : BytesAt w B x) :
    Calls Tryd.prog 27 #[.slice A n c, .slice B x.length d] w fun e w' => e = .returned (.bool (ys.any fun y => decide (y = x))) ∧ w.grownBy w' none := by
  have hg := World.grownBy_alloc w (.cells #[.slice B x.length d] 30) none
  have hb := (Blk.new w 30 #[.slice B x.length d]).cell 0
  have H := Lib.hid (And.intro hn (And.intro (hy.grown hg) (And.intro (hx.grown hg (by simp)) (And.intro hg hb))))
  have hmf : ∀ (fn : Fn) (first cap : Array Value) (w : World), (Instr.makeFunc fn first cap).run Tryd.prog w = .ok (.func fn first cap) w := fun _ _ _ _ => rfl
  clear hn hy hx hg hb
  go_enter Tryd.func27, Tryd.ntmps27
  go_wp2_with fail
  generalize w.alloc (.cells #[.slice B x.length d] 30) = w0 at *
  have hC : Calls Tryd.prog 34 #[.slice A n c, .func (.func 35) #[] #[.pointer (some ⟨w.heap.size, 0, none⟩)]] w0 fun e w' => e = .returned (.bool (ys.any fun y => decide (y = x))) ∧ w0.grownBy w' none := by
    go_enter Tryd.func34, Tryd.ntmps34
    go_wp2_with fail
    refine (lsindex_is w0 A n c ys H.out.1 hnb H.out.2.1 _ _ (fun y => decide (y = x)) enter_in1 (fun w1 B1 d1 x1 k1 hx1 => (in1_is w1 B1 d1 x1 w.heap.size B d x hx1 (k1.cell H.out.2.2.2.2 (by simp)) (H.out.2.2.1.grown k1 (by simp))).mono (fun e w2 ⟨h1, h2⟩ => ⟨h1, by rw [h2]; exact World.grownBy.refl _ _⟩))).mono ?_
    rintro e w1 ⟨rfl, k1⟩
    have hf := firstI_nonneg (fun y => decide (y = x)) 0 ys
    obtain ⟨r, hr⟩ : ∃ r, r = ys.any fun y => decide (y = x) := ⟨_, rfl⟩
    rw [← hr] at hf
    have Hr := Lib.hid hr
    clear hr
    generalize firstI (fun y => decide (y = x)) 0 ys = I at *
    go_wp2_with fail
    go_ret
    exact ⟨by rw [← Hr.out]; rfl, k1⟩
  refine hC.mono ?_
  rintro e w1 ⟨rfl, k1⟩
  go_wp2_with fail
  go_ret
  exact ⟨rfl, grown_trans H.out.2.2.2.1 k1⟩

/-! ### Rows that a call owns -/
section
variable {P : Program} (w : World)
theorem step_push_one {ops : Array Oper} {o : Oper} {a : Act} {K : Act → World → Prop} {Q : Exit → Act → World → Prop} {E : Prop} (hgd : o.guard = none) (s x : Operand) (t : TypeId)
    (ho : o.op = .call { callee := .builtin .append, args := #[s, x], argTypes := #[t, t] })
    (base : Nat) (e : TypeId) (i : TypeInfo) (z : Value) (bytes : Nat) (ht : P.underlying t = some (.slice e)) (hi : P.info? e = some i) (hz : i.zero = some z)
    (hsize : i.size = 1) (hby : i.bytes = bytes) (hzs : z.cells.size = 1)
    (v : Value) (n : Nat) (xs : List Value) (hs : a.eval s = v) (hown : w.ownsRow base e 1 v n xs)
    (ad : Addr) (c : Nat) (u : Value) (hx : a.eval x = .slice (some ad) 1 c) (hcell : w.cell? ad = some u) (hu : u.oneCell' = true) (h63 : n + 1 ≤ 1000000000) (hb : bytes ≤ 100) (hbase : base ≤ w.heap.size)
    (h : ∀ A' cap' w', w'.ownsRow base e 1 (.slice A' (n + 1) cap') (n + 1) (xs ++ [u]) → w.grownBy w' v.ownBlock → ((Value.slice A' (n + 1) cap').ownBlock = v.ownBlock ∨ (Value.slice A' (n + 1) cap').ownBlock = some w.heap.size) → K (a.put o.dst (.slice A' (n + 1) cap')) w') :
    if Region.wanted o (yielded ops a.tmps) = true then Oper.wp P o a w K Q else E := by
  have hw : Region.wanted o (yielded ops a.tmps) = true := by simp [Region.wanted, hgd]
  rw [if_pos hw]
  have hcells : ∀ j v, [u][j]? = some v → w.cell? (ad.add j) = some v := by
    intro j v hv
    rcases j with _ | j
    · simp at hv; subst hv; simpa [Addr.add] using hcell
    · simp at hv
  obtain ⟨v', w', hrun, h2, h3, _, h5⟩ := run_append_own_at (P := P) w base t o.type e i z 1 bytes ht hi hz hsize hby hzs (by omega) v n xs hown ad 1 c [u] (by simp) hcells (by intro v hv; simp at hv; subst hv; exact hu) (by unfold maxLen; omega)
    (Nat.le_trans (Nat.mul_le_mul h63 hb) (by omega)) hbase
  obtain ⟨A', cap', rfl⟩ := own_slice w' h2
  unfold Oper.wp execOp
  simp only [ho, resolve, invoke, builtin, Sem.run_bind, Sem.run_pure, Result.andThen_ok, List.map_toArray, List.map_cons, List.map_nil, hs, hx, hrun]
  exact h A' cap' w' h2 h3 h5
end

theorem lst_info : (Tryd.prog.info? 30).map (fun i => (i.zero, i.size, i.bytes)) = some (some (.slice none 0 0), 1, 24) := by kernel_rfl
theorem own_put {w : World} {base : Nat} {e : TypeId} {n g c : Nat} {cells : List Value} (h : w.ownsRow base e 1 (.slice (some ⟨g, 0, none⟩) n c) n cells) (j : Nat) (u : Value) (hj : j < n) :
    (w.setCell ⟨g, j, none⟩ u).ownsRow base e 1 (.slice (some ⟨g, 0, none⟩) n c) n (cells.set j u) := by
  refine ⟨by simp [h.1], ?_⟩
  rcases h.2 with ⟨hv, _⟩ | ⟨g', cap, cur, hv, hb, hh, hnc, hcm, hsz, ht⟩
  · cases hv
  · injection hv with h1 h2 h3
    injection h1 with h1
    injection h1 with h1
    subst h1 h3
    refine .inr ⟨g, c, cur.setIfInBounds j u, rfl, hb, Joins.block_setCell hh u, hnc, hcm, by simp [hsz], ?_⟩
    rw [Array.toList_setIfInBounds, List.take_set, ht]
theorem own_beyond {w : World} {base : Nat} {e : TypeId} {n g c : Nat} {cells : List Value} (h : w.ownsRow base e 1 (.slice (some ⟨g, 0, none⟩) n c) n cells) (j : Nat) (u : Value) (hj : n ≤ j) :
    (w.setCell ⟨g, j, none⟩ u).ownsRow base e 1 (.slice (some ⟨g, 0, none⟩) n c) n cells := by
  refine ⟨h.1, ?_⟩
  rcases h.2 with ⟨hv, _⟩ | ⟨g', cap, cur, hv, hb, hh, hnc, hcm, hsz, ht⟩
  · cases hv
  · injection hv with h1 h2 h3
    injection h1 with h1
    injection h1 with h1
    subst h1 h3
    refine .inr ⟨g, c, cur.setIfInBounds j u, rfl, hb, Joins.block_setCell hh u, hnc, hcm, by simp [hsz], ?_⟩
    rw [Array.toList_setIfInBounds, List.take_set, List.set_eq_of_length_le (by simp; omega), ht]
theorem own_cut {w : World} {base : Nat} {e : TypeId} {n g c : Nat} {cells : List Value} (h : w.ownsRow base e 1 (.slice (some ⟨g, 0, none⟩) n c) n cells) (i : Nat) (hi : i ≤ n) :
    w.ownsRow base e 1 (.slice (some ⟨g, 0, none⟩) i c) i (cells.take i) := by
  have hl := h.1
  refine ⟨by simp only [List.length_take]; omega, ?_⟩
  rcases h.2 with ⟨hv, _⟩ | ⟨g', cap, cur, hv, hb, hh, hnc, hcm, hsz, ht⟩
  · cases hv
  · injection hv with h1 h2 h3
    injection h1 with h1
    injection h1 with h1
    subst h1 h3
    refine .inr ⟨g, c, cur, rfl, hb, hh, by omega, hcm, hsz, ?_⟩
    rw [← ht, List.take_take]; congr 1; omega
theorem own_cell {w : World} {base : Nat} {e : TypeId} {n g c : Nat} {cells : List Value} (h : w.ownsRow base e 1 (.slice (some ⟨g, 0, none⟩) n c) n cells) {j : Nat} {u : Value} (hj : cells[j]? = some u) : w.cell? ⟨g, j, none⟩ = some u := by
  have h3 := h.cells (g := g) rfl j u hj
  rwa [Go.WideShapes.add_plain, Nat.zero_add] at h3
theorem own_unfrozen {w : World} {base : Nat} {e : TypeId} {n g c : Nat} {cells : List Value} (h : w.ownsRow base e 1 (.slice (some ⟨g, 0, none⟩) n c) n cells) (j : Nat) : w.frozen? ⟨g, j, none⟩ = false := by
  rcases h.2 with ⟨hv, _⟩ | ⟨g', cap, cur, hv, hb, hh, hnc, hcm, hsz, ht⟩
  · cases hv
  · injection hv with h1 h2 h3
    injection h1 with h1
    injection h1 with h1
    subst h1
    exact Joins.unfrozen_of_block hh j

/-- A block of bytes that may be written. -/
def Soft (w : World) (b : Nat) : Prop := ∃ cs, Blk w b 5 cs
theorem Soft.kept {w w' : World} {F : Nat → Prop} {b : Nat} (h : Soft w b) (hk : Kept F w w') (hF : ¬ F b) : Soft w' b := by
  obtain ⟨cs, h⟩ := h
  exact ⟨cs, h.kept hk hF⟩
theorem Soft.lt {w : World} {b : Nat} (h : Soft w b) : b < w.heap.size := by obtain ⟨cs, h⟩ := h; exact h.lt
theorem own_soft {w : World} {base n c : Nat} {A : Option Addr} {cells : List Value} (h : w.ownsRow base 5 1 (.slice A n c) n cells) : ∀ ad, A = some ad → Soft w ad.block := fun ad e => by
  rcases h.2 with ⟨hv, _⟩ | ⟨g', cap, cur, hv, hb, hh, hnc, hcm, hsz, ht⟩
  · injection hv with h1
    rw [h1] at e
    cases e
  · injection hv with h1
    rw [h1] at e
    cases e
    exact ⟨cur, hh⟩
/-- A slice's value, and the bytes that it has: these lie in blocks of S, apart from the row's own block, and may be written. -/
def ElemS (w : World) (S : Nat → Prop) (A : Option Addr) (z : Value × List UInt8) : Prop :=
  ∃ B cB, z.1 = .slice B z.2.length cB ∧ BytesAt w B z.2 ∧ ∀ ad, B = some ad → z.2 ≠ [] → S ad.block ∧ (∀ a, A = some a → a.block ≠ ad.block) ∧ Soft w ad.block
/-- A row of such slices that is owned. -/
def RowS (w : World) (S : Nat → Prop) (A : Option Addr) (n c : Nat) (zs : List (Value × List UInt8)) : Prop :=
  w.ownsRow 0 30 1 (.slice A n c) n (zs.map (·.1)) ∧ (∀ ad, A = some ad → S ad.block) ∧ ∀ z ∈ zs, ElemS w S A z
section
variable {w w' : World} {S T F : Nat → Prop} {A : Option Addr} {n c : Nat} {zs : List (Value × List UInt8)} {z : Value × List UInt8}
theorem ElemS.kept (h : ElemS w S A z) (hk : Kept F w w') (hF : ∀ k, F k → S k → (∃ a, A = some a ∧ a.block = k)) : ElemS w' S A z := by
  obtain ⟨B, cB, h1, h2, h3⟩ := h
  have hno : ∀ ad, B = some ad → z.2 ≠ [] → ¬ F ad.block := fun ad e hne hf => by
    obtain ⟨q1, q2, _⟩ := h3 ad e hne
    obtain ⟨a, ea, eb⟩ := hF _ hf q1
    exact q2 a ea eb
  exact ⟨B, cB, h1, h2.kept' hk (fun ad e hne hf => hno ad e hne hf), fun ad e hne => ⟨(h3 ad e hne).1, (h3 ad e hne).2.1, (h3 ad e hne).2.2.kept hk (hno ad e hne)⟩⟩
theorem ElemS.mono (h : ElemS w S A z) (hST : ∀ k, k < w.heap.size → S k → T k) : ElemS w T A z := by
  obtain ⟨B, cB, h1, h2, h3⟩ := h
  refine ⟨B, cB, h1, h2, fun ad e hne => ⟨hST _ ?_ (h3 ad e hne).1, (h3 ad e hne).2⟩⟩
  obtain ⟨ad', e', hc⟩ := h2 hne
  rw [e] at e'
  injection e' with e'
  subst e'
  have := World.block_lt_of_cell? w _ (hc 0 (List.length_pos_iff.2 hne))
  rwa [block_add] at this
theorem RowS.length (h : RowS w S A n c zs) : zs.length = n := by have := h.1.1; simpa using this
theorem RowS.kept (h : RowS w S A n c zs) (hk : Kept F w w') (hF : ∀ k, F k → ¬ S k) : RowS w' S A n c zs := by
  obtain ⟨h1, h2, h3⟩ := h
  exact ⟨own_kept h1 hk (fun k hk hf => by
    rcases A with _ | ad
    · simp [Value.ownBlock] at hk
    · have e : ad.block = k := by simpa [Value.ownBlock] using hk
      subst e; exact hF _ hf (h2 ad rfl)), h2, fun z hz => (h3 z hz).kept hk (fun k hf hs => absurd hs (hF k hf))⟩
theorem RowS.lt (h : RowS w S A n c zs) : ∀ ad, A = some ad → ad.block < w.heap.size := fun ad e => by subst e; exact (h.1.lt ad.block rfl).2
theorem RowS.mono (h : RowS w S A n c zs) (hST : ∀ k, k < w.heap.size → S k → T k) : RowS w T A n c zs :=
  ⟨h.1, fun ad e => hST _ (h.lt ad e) (h.2.1 ad e), fun z hz => (h.2.2 z hz).mono hST⟩
theorem RowS.nil : RowS w S none 0 0 [] := ⟨World.ownsRow_nil _ _ _ _, (fun _ e => by cases e), fun z hz => by cases hz⟩
theorem RowS.ls (h : RowS w S A n c zs) : LsAt w A (zs.map (·.2)) := fun hne => by
  have hl := h.length
  obtain ⟨hown, _, hel⟩ := h
  have h0 : 0 < zs.length := by
    rcases zs with _ | ⟨z, zs⟩
    · simp at hne
    · simp
  obtain ⟨g, cap, hv⟩ := Joins.ownsRow_form hown (by omega)
  have hA : A = some ⟨g, 0, none⟩ := by injection hv
  subst hA
  refine ⟨g, 0, rfl, fun j hj => ?_⟩
  have hj' : j < zs.length := by simpa using hj
  obtain ⟨B, cB, h1, h2, _⟩ := hel zs[j] (List.getElem_mem hj')
  refine ⟨B, cB, ?_, by simpa using h2⟩
  rw [Nat.zero_add]
  exact own_cell hown (by simp [List.getElem?_eq_getElem hj', h1])
/-- The cell of a row at j. -/
theorem RowS.at {g : Nat} (h : RowS w S (some ⟨g, 0, none⟩) n c zs) {j : Nat} (hj : j < n) : ∃ B cB y, (zs.map (·.2))[j]? = some y ∧ w.cell? ⟨g, j, none⟩ = some (.slice B y.length cB) ∧ BytesAt w B y ∧ ∀ ad, B = some ad → y ≠ [] → S ad.block ∧ g ≠ ad.block ∧ Soft w ad.block := by
  have hl := h.length
  have hj' : j < zs.length := by omega
  obtain ⟨B, cB, h1, h2, h3⟩ := h.2.2 zs[j] (List.getElem_mem hj')
  refine ⟨B, cB, zs[j].2, by simp [List.getElem?_eq_getElem hj'], own_cell h.1 (by simp [List.getElem?_eq_getElem hj', h1]), h2, fun ad e hne => ⟨(h3 ad e hne).1, (h3 ad e hne).2.1 _ rfl, (h3 ad e hne).2.2⟩⟩
end
end Go.Proofs.YtnhjokcjdjfijaaDoor
