/-
  Pool: Drop.
-/
import Derived.Test.YtnhjokcjdjfijaaDoorPlE
namespace Go.Proofs.YtnhjokcjdjfijaaDoor
open Go.RowKit

/-- Lists of bytes that lie in blocks of T. -/
def LsIn (w : World) (T : Nat → Prop) (A : Option Addr) (xs : List (List UInt8)) : Prop :=
  xs ≠ [] → ∃ b off, A = some ⟨b, off, none⟩ ∧ T b ∧ ∀ j (_ : j < xs.length), ∃ B c, w.cell? ⟨b, off + j, none⟩ = some (.slice B xs[j].length c) ∧ BytesAt w B xs[j] ∧ ∀ ad, B = some ad → xs[j] ≠ [] → T ad.block
section
variable {w w' : World} {S T F : Nat → Prop} {A : Option Addr} {xs : List (List UInt8)}
theorem LsIn.ls (h : LsIn w T A xs) : LsAt w A xs := fun hne => by
  obtain ⟨b, off, e, _, hc⟩ := h hne
  exact ⟨b, off, e, fun j hj => by obtain ⟨B, c, h1, h2, _⟩ := hc j hj; exact ⟨B, c, h1, h2⟩⟩
theorem LsIn.kept (h : LsIn w T A xs) (hk : Kept F w w') (hF : ∀ k, F k → ¬ T k) : LsIn w' T A xs := fun hne => by
  obtain ⟨b, off, e, hb, hc⟩ := h hne
  refine ⟨b, off, e, hb, fun j hj => ?_⟩
  obtain ⟨B, c, h1, h2, h3⟩ := hc j hj
  exact ⟨B, c, hk.cell h1 (fun h => hF _ h hb), h2.kept' hk (fun ad e hne h => hF _ h (h3 ad e hne)), h3⟩
theorem LsAt.lsIn (h : LsAt w A xs) : LsIn w (fun b => b < w.heap.size) A xs := fun hne => by
  obtain ⟨b, off, e, hc⟩ := h hne
  refine ⟨b, off, e, ?_, fun j hj => ?_⟩
  · obtain ⟨B, c, h1, _⟩ := hc 0 (List.length_pos_iff.2 hne)
    exact World.block_lt_of_cell? w _ h1
  · obtain ⟨B, c, h1, h2⟩ := hc j hj
    refine ⟨B, c, h1, h2, fun ad e hne => ?_⟩
    obtain ⟨ad', e', hc'⟩ := h2 hne
    rw [e] at e'
    injection e' with e'
    subst e'
    have := World.block_lt_of_cell? w _ (hc' 0 (List.length_pos_iff.2 hne))
    rwa [block_add] at this
theorem RowS.lsIn {n c : Nat} {zs : List (Value × List UInt8)} (h : RowS w S A n c zs) : LsIn w S A (zs.map (·.2)) := fun hne => by
  obtain ⟨b, off, e, hc⟩ := h.ls hne
  subst e
  have hl := h.length
  refine ⟨b, off, rfl, h.2.1 _ rfl, fun j hj => ?_⟩
  have hj' : j < zs.length := by simpa using hj
  rcases h.1.2 with ⟨hv, _⟩ | ⟨g', cap, cur, hv, _⟩
  · cases hv
  · injection hv with h1 h2 h3
    injection h1 with h1
    injection h1 with h1 h1'
    subst h1 h1' h3
    obtain ⟨B, cB, q1, q2, q3⟩ := h.2.2 zs[j] (List.getElem_mem hj')
    refine ⟨B, cB, ?_, by simpa using q2, fun ad e hne => (q3 ad e (by simpa using hne)).1⟩
    rw [Nat.zero_add]
    exact own_cell h.1 (by simp [List.getElem?_eq_getElem hj', q1])
end

theorem drop1_is (w : World) (B : Option Addr) (d : Nat) (x : List UInt8) (bx : Nat) (A0 : Option Addr) (nD cD : Nat) (D : List (List UInt8)) (hn : D.length = nD) (hnb : nD ≤ 1000000) (hx : BytesAt w B x) (hc : w.cell? ⟨bx, 0, none⟩ = some (.slice A0 nD cD)) (hD : LsAt w A0 D) :
    Calls Tryd.prog 29 #[.slice B x.length d, .pointer (some ⟨bx, 0, none⟩)] w fun e w' => e = .returned (.bool (isIn D x)) ∧ w.grownBy w' none := by
  have H := Lib.hid (in_is w A0 nD cD D hn hnb hD B d x hx)
  clear hn hx hD
  go_enter Tryd.func29, Tryd.ntmps29
  go_wp2_with fail
  refine H.out.mono ?_
  rintro e w1 ⟨rfl, k1⟩
  have K1 := Lib.hid k1
  clear k1
  go_wp2_with fail
  go_ret
  exact ⟨rfl, K1.out⟩
theorem enter_drop1 (args : Array Value) (w : World) : (callFunc 29 args).run Tryd.prog w = .ok (.enter 29 args) w := by kernel_rfl

/-- The block of a slice's address. -/
def atB (A : Option Addr) : Nat → Prop := fun j => ∃ a, A = some a ∧ a.block = j
set_option maxRecDepth 100000 in
theorem delete_any (w : World) (S : Nat → Prop) (A : Option Addr) (n c : Nat) (zs : List (Value × List UInt8)) (hrow : RowS w S A n c zs) (hnb : n ≤ 100000) (fn : FuncId) (cap : Value) (p : List UInt8 → Bool)
    (hE : ∀ (args : Array Value) (w : World), (callFunc fn args).run Tryd.prog w = .ok (.enter fn args) w)
    (hP : ∀ w1 B d x, Kept (atB A) w w1 → BytesAt w1 B x → Calls Tryd.prog fn #[.slice B x.length d, cap] w1 fun e w2 => e = .returned (.bool (p x)) ∧ w1.grownBy w2 none) :
    Calls Tryd.prog 28 #[.slice A n c, .func (.func fn) #[] #[cap]] w fun e w' => e = .returned (.slice A (zs.filter fun z => !p z.2).length c) ∧ RowS w' S A (zs.filter fun z => !p z.2).length c (zs.filter fun z => !p z.2) ∧ Kept (atB A) w w' := by
  rcases hrow.1.2 with ⟨hv, h0⟩ | ⟨g, cap', cur, hv, _⟩
  · injection hv with h1 h2 h3
    subst h1 h2 h3
    have hz : zs = [] := List.length_eq_zero_iff.1 hrow.length
    subst hz
    have HI := Lib.hid (lsindex_is w none 0 0 [] rfl (by omega) (fun h => absurd rfl h) fn cap p hE (fun w1 B d x k1 hx => hP w1 B d x (Kept.of_grown k1 fun _ e => by cases e) hx))
    clear hrow hP
    go_enter Tryd.func28, Tryd.ntmps28
    go_wp2_with fail
    refine HI.out.mono ?_
    rintro e w1 ⟨rfl, k1⟩
    rw [firstI]
    have HK := Lib.hid k1
    clear k1
    go_wp2_with fail
    go_ret
    exact ⟨rfl, RowS.nil, Kept.of_grown HK.out fun _ e => by cases e⟩
  · injection hv with h1 h2 h3
    subst h1 h3
    have hK : ∀ w1, Kept (fun j => j = g) w w1 → Kept (atB (some ⟨g, 0, none⟩)) w w1 := fun w1 h => h.mono (fun k _ h => ⟨_, rfl, h.symm⟩)
    refine (delete_is w S g n c zs hrow hnb fn cap p hE (fun w1 B d x k1 hx => hP w1 B d x (hK w1 k1) hx)).mono ?_
    rintro e w1 ⟨rfl, h1, h2⟩
    exact ⟨rfl, h1, hK _ (Kept.of_grown h2 (fun j e => (Option.some.inj e).symm))⟩

/-- What is left when D is dropped. -/
def dropL (L D : List (List UInt8)) : List (List UInt8) := L.filter fun y => !isIn D y
def dropOk (S : Nat → Prop) (p : Nat) (L D : List (List UInt8)) (w : World) (e : Ending) (w' : World) : Prop :=
  e = .returned (.int .i64 ((L.length : Int) - ((dropL L D).length : Int))) ∧ PoolIs w' S p (dropL L D) ∧ Kept S w w'

set_option maxRecDepth 100000 in
set_option maxHeartbeats 2000000 in
theorem pool_drop (w : World) (S T : Nat → Prop) (p : Nat) (L : List (List UInt8)) (h : PoolIs w S p L) (hL : L.length ≤ 1000) (hSw : ∀ k, S k → k < w.heap.size) (A0 : Option Addr) (nD cD : Nat) (D : List (List UInt8)) (hn : D.length = nD) (hnb : nD ≤ 100000) (hD : LsIn w T A0 D) (hT : ∀ k, T k → ¬ S k) :
    Calls Tryd.prog 18 #[.pointer (some ⟨p, 0, none⟩), .slice A0 nD cD] w (dropOk S p L D w) := by
  have hmf : ∀ (fn : Fn) (first cap : Array Value) (w : World), (Instr.makeFunc fn first cap).run Tryd.prog w = .ok (.func fn first cap) w := fun _ _ _ _ => rfl
  obtain ⟨w0, hw0⟩ : ∃ w0, w0 = w.alloc (.cells #[.slice A0 nD cD] 31) := ⟨_, rfl⟩
  have k0 : Kept (fun _ => False) w w0 := by rw [hw0]; exact (Kept.refl _ w).alloc _
  have hbx : Blk w0 w.heap.size 31 #[.slice A0 nD cD] := by rw [hw0]; exact Blk.new _ _ _
  obtain ⟨hSp, A, n, c, zs, hb, hrow, hs⟩ := h.kept k0 (fun _ h => h.elim)
  have hl : n = L.length := by rw [← hs, List.length_map, hrow.length]
  have c0 := hb.cell 0
  simp only [List.getElem?_toArray, List.getElem?_cons_zero] at c0
  have c0' := c0
  rw [hw0] at c0'
  have hAS : ∀ j, atB A j → S j ∧ j ≠ p := fun j ⟨a, e1, e2⟩ => by subst e2; exact hrow.2.1 a e1
  have hD0 := hD.kept k0 (fun _ h => h.elim)
  have hdel : ∀ W, w0.grownBy W none → Calls Tryd.prog 28 #[.slice A n c, .func (.func 29) #[] #[.pointer (some ⟨w.heap.size, 0, none⟩)]] W fun e w' => e = .returned (.slice A (zs.filter fun z => !isIn D z.2).length c) ∧ RowS w' (fun b => S b ∧ b ≠ p) A (zs.filter fun z => !isIn D z.2).length c (zs.filter fun z => !isIn D z.2) ∧ Kept (atB A) W w' := fun W hW => by
    have KW := Kept.of_grown (F := fun _ => False) hW fun _ e => by cases e
    refine delete_any W _ A n c zs (hrow.kept KW (fun _ h => h.elim)) (by omega) _ _ (isIn D) enter_drop1 (fun w1 B d x k1 hx => ?_)
    have kk := (KW.mono (G := atB A) (fun _ _ h => h.elim)).next k1 (fun _ _ h => h)
    refine drop1_is w1 B d x w.heap.size A0 nD cD D hn (by omega) hx ((hbx.kept kk (fun h => ?_)).cell 0) (hD0.kept kk (fun k h hk => hT k hk (hAS k h).1)).ls
    have := hSw _ (hAS _ h).1
    omega
  have HW := Lib.hid (And.intro k0 (And.intro hSp (And.intro hb (And.intro hs (And.intro hAS hl)))))
  have HD := Lib.hid hdel
  have hafter : ∀ W W3, w0.grownBy W none → Kept (atB A) W W3 → W3.cell? ⟨p, 0, none⟩ = some (.slice A n c) ∧ W3.frozen? ⟨p, 0, none⟩ = false := fun W W3 hW h3 => by
    have hb3 : Blk W3 p 58 #[.slice A n c] := (hb.grown hW (by simp)).kept h3 (fun h => (hAS p h).2 rfl)
    exact ⟨hb3.cell 0, hb3.frozen 0⟩
  have HG := Lib.hid hafter
  have hn16 : n ≤ 1000 := by omega
  obtain ⟨m, hm⟩ : ∃ m, m = (zs.filter fun z => !isIn D z.2).length := ⟨_, rfl⟩
  have hmn : m ≤ n := by rw [hm, ← hrow.length]; exact List.length_filter_le _ _
  have HM := Lib.hid hm
  rw [← hm] at HD
  clear k0 hbx hSp hb hrow hs hl hAS hD0 hdel hD hT hSw h hn hafter hm
  go_enter Tryd.func18, Tryd.ntmps18
  go_wp2_with fail
  rw [← hw0]
  have HW0 := Lib.hid hw0
  clear hw0 c0'
  refine (HD.out w0 (World.grownBy.refl w0 none)).mono ?_
  rintro e w5 ⟨rfl, hr5, k5⟩
  have q4 := (HG.out w0 w5 (World.grownBy.refl w0 none) k5).1
  have q5 := (HG.out w0 w5 (World.grownBy.refl w0 none) k5).2
  have KS : Kept (fun j => j = p) w5 (w5.setCell ⟨p, 0, none⟩ (.slice A m c)) := (Kept.refl (fun j => j = p) w5).set (p := ⟨p, 0, none⟩) (.inl rfl) _
  have hb5 : Blk w5 p 58 #[.slice A n c] := HW.out.2.2.1.kept k5 (fun h => (HW.out.2.2.2.2.1 p h).2 rfl)
  have hb6 : Blk (w5.setCell ⟨p, 0, none⟩ (.slice A m c)) p 58 #[.slice A m c] := by simpa using hb5.set 0 (.slice A m c)
  have q6 := hb6.cell 0
  simp only [List.getElem?_toArray, List.getElem?_cons_zero] at q6
  have HR := Lib.hid (And.intro hr5 (And.intro k5 (And.intro KS hb6)))
  clear hr5 k5 KS hb5 hb6
  go_wp2_with fail
  go_ret
  obtain ⟨hr5, k5, KS, hb6⟩ := HR.out
  obtain ⟨k0, hSp, hb, hs, hAS, hl⟩ := HW.out
  have hd : (zs.filter fun z => !isIn D z.2).map (·.2) = dropL L D := by
    rw [dropL, ← hs, List.filter_map]; rfl
  have hml : m = (dropL L D).length := by rw [← hd, List.length_map, HM.out]
  refine ⟨by rw [← hml, ← hl]; rfl, ⟨hSp, A, m, c, _, hb6, ?_, hd⟩, ((k0.mono (G := S) (fun _ _ h => h.elim)).next k5 (fun k _ h => (hAS k h).1)).next KS (fun k _ h => by rw [show k = p from h]; exact hSp)⟩
  exact (hr5.kept KS (fun k h h2 => h2.2 h))
end Go.Proofs.YtnhjokcjdjfijaaDoor
