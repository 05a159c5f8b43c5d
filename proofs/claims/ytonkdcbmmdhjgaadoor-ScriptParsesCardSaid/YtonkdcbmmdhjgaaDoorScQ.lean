/-
  The document's own: a word that belongs to an op: numbers, '-', bytes.
-/
import Derived.Test.YtonkdcbmmdhjgaaDoorScZ
namespace Go.Proofs.YtonkdcbmmdhjgaaDoor
open Go.RowKit Go.Shelf

attribute [local go_sem] Oper.semAt_some

theorem OpM.Own.apartR {w w' : World} {base : Nat} {o : OpM} {g : Nat} {cs : Array Value} (h : o.Own w base) (hg : Blk w g 56 cs) (hw : w.grownBy w' (some g)) : o.Own w' base :=
  ⟨own_apart h.1 hg (by decide) hw, own_apart h.2.1 hg (by decide) hw, own_apart h.2.2 hg (by decide) hw⟩
/-- The letter's list is still none. -/
def Fresh (o : OpM) (c : UInt8) : Prop := (c = 120 → o.A3 = none ∧ o.c3 = 0 ∧ o.v.data = []) ∧ (c = 112 → o.A1 = none ∧ o.c1 = 0 ∧ o.v.set = []) ∧ (c = 98 → o.A2 = none ∧ o.c2 = 0 ∧ o.v.keep = [])
/-- What part leaves. -/
def PartPost (w : World) (g base : Nat) (c : UInt8) (l : List UInt8) (o : OpM) (e : Ending) (w' : World) : Prop := w.grownBy w' (some g) ∧ match readS c l o.v with
  | some v => ∃ o' : OpM, o'.v = v ∧ e = .returned (.bool true) ∧ Blk w' g 56 o'.val ∧ o'.Own w' base ∧ ∀ c', c' ≠ c → Fresh o c' → Fresh o' c'
  | none => e = .returned (.bool false)
theorem rnumV_some {l : List UInt8} {v : Int} (h : numS l = some v) : rnumV l = v ∧ 0 ≤ v := by
  rw [rnumV, h]; exact ⟨rfl, (numS_len h).2.2.1⟩
theorem rnumV_none {l : List UInt8} (h : numS l = none) : rnumV l = -1 := by rw [rnumV, h]; rfl
set_option maxRecDepth 100000 in
set_option maxHeartbeats 2000000 in
theorem partN_is (w : World) (g base : Nat) (o : OpM) (hb : Blk w g 56 o.val) (ho : o.Own w base) (s : ByteArray) (l : List UInt8) (hl : s.data.toList = l) :
    Calls Tryd.prog 19 #[.pointer (some ⟨g, 0, none⟩), .int .u8 110, .string s] w (PartPost w g base 110 l o) := by
  obtain ⟨Q, hQ⟩ : ∃ Q, Q = PartPost w g base 110 l o := ⟨_, rfl⟩
  rw [← hQ]
  obtain ⟨V, hV⟩ : ∃ V, V = rnumV l := ⟨_, rfl⟩
  have HN := Lib.hid (rnumber_is s l hl w)
  rw [← hV] at HN
  have HX := Lib.hid (And.intro hQ (And.intro hV (And.intro hb ho)))
  have hr := Lib.hid (show readS 110 l o.v = (numS l).map fun v => { o.v with n := v } from rfl)
  clear hQ hV hb ho hl
  go_enter Tryd.func19, Tryd.ntmps19
  go_wp2_with fail
  refine HN.out.mono ?_
  rintro e w1 ⟨rfl, k1⟩
  have b1 := HX.out.2.2.1.grown k1 (by simp)
  have c1 : w1.cell? ⟨g, 2, none⟩ = some (.int .i64 o.v.n) := b1.cell 2
  have f1 := b1.frozen 2
  have gs := gset w1 g 2 (.int .i64 V)
  have HB := Lib.hid (And.intro (b1.set 2 (.int .i64 V)) (And.intro ((HX.out.2.2.2.grown k1).apartR b1 gs) (grown_trans (grown_weak k1 (some g)) gs)))
  clear b1 k1 gs
  cases hn : numS l with
  | none =>
    have HV := Lib.hid (And.intro hn (HX.out.2.1.trans (rnumV_none hn)))
    have d1 : decide (0 ≤ V) = false := by rw [HV.out.2]; rfl
    clear hn
    go_wp2_with fail
    rw [HX.out.1]
    exact ⟨HB.out.2.2, by rw [hr.out, HV.out.1]; rfl⟩
  | some v =>
    have HV := Lib.hid (And.intro hn (And.intro (HX.out.2.1.trans (rnumV_some hn).1) (rnumV_some hn).2))
    have d1 : decide (0 ≤ V) = true := by rw [HV.out.2.1]; simpa using HV.out.2.2
    clear hn
    go_wp2_with fail
    rw [HX.out.1]
    refine ⟨HB.out.2.2, ?_⟩
    rw [hr.out, HV.out.1]
    have h := HB.out.1
    have h2 := HB.out.2.1
    rw [HV.out.2.1] at h h2 ⊢
    exact ⟨⟨{ o.v with n := v }, o.A1, o.c1, o.A2, o.c2, o.A3, o.c3⟩, rfl, rfl, h, h2, fun _ _ h => h⟩
set_option maxRecDepth 100000 in
set_option maxHeartbeats 2000000 in
theorem partI_is (w : World) (g base : Nat) (o : OpM) (hb : Blk w g 56 o.val) (ho : o.Own w base) (s : ByteArray) (l : List UInt8) (hl : s.data.toList = l) :
    Calls Tryd.prog 19 #[.pointer (some ⟨g, 0, none⟩), .int .u8 105, .string s] w (PartPost w g base 105 l o) := by
  obtain ⟨Q, hQ⟩ : ∃ Q, Q = PartPost w g base 105 l o := ⟨_, rfl⟩
  rw [← hQ]
  obtain ⟨V, hV⟩ : ∃ V, V = rnumV l := ⟨_, rfl⟩
  have HN := Lib.hid (rnumber_is s l hl w)
  rw [← hV] at HN
  have HX := Lib.hid (And.intro hQ (And.intro hV (And.intro hb ho)))
  have hr := Lib.hid (show readS 105 l o.v = (numS l).map fun v => { o.v with node := v } from rfl)
  clear hQ hV hb ho hl
  go_enter Tryd.func19, Tryd.ntmps19
  go_wp2_with fail
  refine HN.out.mono ?_
  rintro e w1 ⟨rfl, k1⟩
  have b1 := HX.out.2.2.1.grown k1 (by simp)
  have c1 : w1.cell? ⟨g, 1, none⟩ = some (.int .i64 o.v.node) := b1.cell 1
  have f1 := b1.frozen 1
  have gs := gset w1 g 1 (.int .i64 V)
  have HB := Lib.hid (And.intro (b1.set 1 (.int .i64 V)) (And.intro ((HX.out.2.2.2.grown k1).apartR b1 gs) (grown_trans (grown_weak k1 (some g)) gs)))
  clear b1 k1 gs
  cases hn : numS l with
  | none =>
    have HV := Lib.hid (And.intro hn (HX.out.2.1.trans (rnumV_none hn)))
    have d1 : decide (0 ≤ V) = false := by rw [HV.out.2]; rfl
    clear hn
    go_wp2_with fail
    rw [HX.out.1]
    exact ⟨HB.out.2.2, by rw [hr.out, HV.out.1]; rfl⟩
  | some v =>
    have HV := Lib.hid (And.intro hn (And.intro (HX.out.2.1.trans (rnumV_some hn).1) (rnumV_some hn).2))
    have d1 : decide (0 ≤ V) = true := by rw [HV.out.2.1]; simpa using HV.out.2.2
    clear hn
    go_wp2_with fail
    rw [HX.out.1]
    refine ⟨HB.out.2.2, ?_⟩
    rw [hr.out, HV.out.1]
    have h := HB.out.1
    have h2 := HB.out.2.1
    rw [HV.out.2.1] at h h2 ⊢
    exact ⟨⟨{ o.v with node := v }, o.A1, o.c1, o.A2, o.c2, o.A3, o.c3⟩, rfl, rfl, h, h2, fun _ _ h => h⟩
/-- A letter whose list is still empty. -/
def Empty (o : OpM) (c : UInt8) : Prop := (c = 120 ∧ o.v.data = []) ∨ (c = 112 ∧ o.v.set = []) ∨ (c = 98 ∧ o.v.keep = [])
theorem empty_same {o : OpM} {c : UInt8} (h : Empty o c) : readS c [45] o.v = some o.v := by
  obtain ⟨v, A1, c1, A2, c2, A3, c3⟩ := o
  obtain ⟨a, b, d, st, kp, dt⟩ := v
  rcases h with ⟨rfl, h⟩ | ⟨rfl, h⟩ | ⟨rfl, h⟩ <;> (replace h := h.symm; simp only at h; subst h; rfl)
theorem empty_none {o : OpM} {c : UInt8} (h : Empty o c) : readS c [] o.v = none := by
  rcases h with ⟨rfl, _⟩ | ⟨rfl, _⟩ | ⟨rfl, _⟩
  · rfl
  · have e : powS [] = none := by
      have h1 : numS [] = none := by rw [← numR_eq]; rfl
      unfold powS
      rw [if_neg (by decide)]
      simp [splitP, numsS, h1]
    show (powS []).map (fun v => { o.v with set := v }) = none
    rw [e]; rfl
  · rfl
set_option maxRecDepth 100000 in
set_option maxHeartbeats 2000000 in
theorem partH_dash (w : World) (g base : Nat) (o : OpM) (hb : Blk w g 56 o.val) (ho : o.Own w base) (he : Empty o 120) :
    Calls Tryd.prog 19 #[.pointer (some ⟨g, 0, none⟩), .int .u8 104, .string ⟨#[45]⟩] w (PartPost w g base 120 [45] o) := by
  obtain ⟨Q, hQ⟩ : ∃ Q, Q = PartPost w g base 120 [45] o := ⟨_, rfl⟩
  rw [← hQ]
  have HX := Lib.hid (And.intro hQ (And.intro hb (And.intro ho he)))
  clear hQ hb ho he
  go_enter Tryd.func19, Tryd.ntmps19
  go_wp2_with fail
  rw [HX.out.1]
  exact ⟨World.grownBy.refl _ _, by rw [empty_same HX.out.2.2.2]; exact ⟨o, rfl, rfl, HX.out.2.1, HX.out.2.2.1, fun _ _ h => h⟩⟩
set_option maxRecDepth 100000 in
set_option maxHeartbeats 2000000 in
theorem partH_none (w : World) (g base : Nat) (o : OpM) (he : Empty o 120) :
    Calls Tryd.prog 19 #[.pointer (some ⟨g, 0, none⟩), .int .u8 104, .string ⟨#[]⟩] w (PartPost w g base 120 [] o) := by
  obtain ⟨Q, hQ⟩ : ∃ Q, Q = PartPost w g base 120 [] o := ⟨_, rfl⟩
  rw [← hQ]
  have HX := Lib.hid (And.intro hQ he)
  clear hQ he
  go_enter Tryd.func19, Tryd.ntmps19
  go_wp2_with fail
  rw [HX.out.1]
  exact ⟨World.grownBy.refl _ _, by rw [empty_none HX.out.2]; rfl⟩
set_option maxRecDepth 100000 in
set_option maxHeartbeats 2000000 in
theorem partP_dash (w : World) (g base : Nat) (o : OpM) (hb : Blk w g 56 o.val) (ho : o.Own w base) (he : Empty o 112) :
    Calls Tryd.prog 19 #[.pointer (some ⟨g, 0, none⟩), .int .u8 112, .string ⟨#[45]⟩] w (PartPost w g base 112 [45] o) := by
  obtain ⟨Q, hQ⟩ : ∃ Q, Q = PartPost w g base 112 [45] o := ⟨_, rfl⟩
  rw [← hQ]
  have HX := Lib.hid (And.intro hQ (And.intro hb (And.intro ho he)))
  clear hQ hb ho he
  go_enter Tryd.func19, Tryd.ntmps19
  go_wp2_with fail
  rw [HX.out.1]
  exact ⟨World.grownBy.refl _ _, by rw [empty_same HX.out.2.2.2]; exact ⟨o, rfl, rfl, HX.out.2.1, HX.out.2.2.1, fun _ _ h => h⟩⟩
set_option maxRecDepth 100000 in
set_option maxHeartbeats 2000000 in
theorem partP_none (w : World) (g base : Nat) (o : OpM) (he : Empty o 112) :
    Calls Tryd.prog 19 #[.pointer (some ⟨g, 0, none⟩), .int .u8 112, .string ⟨#[]⟩] w (PartPost w g base 112 [] o) := by
  obtain ⟨Q, hQ⟩ : ∃ Q, Q = PartPost w g base 112 [] o := ⟨_, rfl⟩
  rw [← hQ]
  have HX := Lib.hid (And.intro hQ he)
  clear hQ he
  go_enter Tryd.func19, Tryd.ntmps19
  go_wp2_with fail
  rw [HX.out.1]
  exact ⟨World.grownBy.refl _ _, by rw [empty_none HX.out.2]; rfl⟩
set_option maxRecDepth 100000 in
set_option maxHeartbeats 2000000 in
theorem partB_dash (w : World) (g base : Nat) (o : OpM) (hb : Blk w g 56 o.val) (ho : o.Own w base) (he : Empty o 98) :
    Calls Tryd.prog 19 #[.pointer (some ⟨g, 0, none⟩), .int .u8 98, .string ⟨#[45]⟩] w (PartPost w g base 98 [45] o) := by
  obtain ⟨Q, hQ⟩ : ∃ Q, Q = PartPost w g base 98 [45] o := ⟨_, rfl⟩
  rw [← hQ]
  have HX := Lib.hid (And.intro hQ (And.intro hb (And.intro ho he)))
  clear hQ hb ho he
  go_enter Tryd.func19, Tryd.ntmps19
  go_wp2_with fail
  rw [HX.out.1]
  exact ⟨World.grownBy.refl _ _, by rw [empty_same HX.out.2.2.2]; exact ⟨o, rfl, rfl, HX.out.2.1, HX.out.2.2.1, fun _ _ h => h⟩⟩
set_option maxRecDepth 100000 in
set_option maxHeartbeats 2000000 in
theorem partB_none (w : World) (g base : Nat) (o : OpM) (he : Empty o 98) :
    Calls Tryd.prog 19 #[.pointer (some ⟨g, 0, none⟩), .int .u8 98, .string ⟨#[]⟩] w (PartPost w g base 98 [] o) := by
  obtain ⟨Q, hQ⟩ : ∃ Q, Q = PartPost w g base 98 [] o := ⟨_, rfl⟩
  rw [← hQ]
  have HX := Lib.hid (And.intro hQ he)
  clear hQ he
  go_enter Tryd.func19, Tryd.ntmps19
  go_wp2_with fail
  rw [HX.out.1]
  exact ⟨World.grownBy.refl _ _, by rw [empty_none HX.out.2]; rfl⟩
set_option maxRecDepth 100000 in
set_option maxHeartbeats 2000000 in
theorem partH_is (w : World) (g base : Nat) (o : OpM) (hb : Blk w g 56 o.val) (ho : o.Own w base) (hbase : base ≤ w.heap.size) (hg : g < w.heap.size) (h3 : o.A3 = none ∧ o.c3 = 0 ∧ o.v.data = []) (s : ByteArray) (l : List UInt8) (hl : s.data.toList = l) (hs : s.size ≤ 100000) (hd : ¬ s = ⟨#[45]⟩) (he : ¬ s = ⟨#[]⟩) :
    Calls Tryd.prog 19 #[.pointer (some ⟨g, 0, none⟩), .int .u8 104, .string s] w (PartPost w g base 120 l o) := by
  obtain ⟨Q, hQ⟩ : ∃ Q, Q = PartPost w g base 120 l o := ⟨_, rfl⟩
  rw [← hQ]
  obtain ⟨i0, hi0, hz0, hz1, hz2⟩ := info_parts byte_infoS
  have HI0 := Lib.hid (And.intro hi0 (And.intro hz0 (And.intro hz1 hz2)))
  have hln : l.length = s.size := by rw [← hl]; exact Array.length_toList
  have dd := lit_neB (a := [45]) hd
  have de := lit_neB (a := []) he
  have hdl : ¬ l = [45] := fun e => hd (by rw [← strB_of s, hl, e]; rfl)
  have hel : ¬ l = [] := fun e => he (by rw [← strB_of s, hl, e]; rfl)
  have hr := Lib.hid (show readS 120 l o.v = (readHex l).map fun v => { o.v with data := v } by
    show (bytesS l).map _ = _
    unfold bytesS
    rw [if_neg hdl, if_neg hel])
  have HX := Lib.hid (And.intro hQ (And.intro hl (And.intro hln (And.intro hb (And.intro ho (And.intro hbase hg))))))
  have H3 := Lib.hid h3
  clear hQ hb ho hl hi0 hz0 hz1 hz2 hdl hel hd he hbase h3
  obtain ⟨m, hm⟩ : ∃ m, s.size = 2 * m ∨ s.size = 2 * m + 1 := ⟨s.size / 2, by omega⟩
  rcases hm with hm | hm
  · have q2 : ((s.size : Int) % 2) = 0 := by omega
    have q3 : ((s.size : Int).tmod 2) = 0 := by rw [Int.tmod_eq_emod_of_nonneg (by omega)]; omega
    have HM := Lib.hid hm
    clear hm
    go_enter Tryd.func19, Tryd.ntmps19
    go_wp2_with fail
    go_loopw [7] (fun i wr => ∃ (k : Nat) (d : List UInt8) (A3 : Option Addr) (c3 : Nat), k ≤ m ∧ i = .int .i64 (2 * (k : Int)) ∧ Hid (d.length = k ∧ readHex (l.take (2 * k)) = some d ∧ Blk wr g 56 #[.int .i64 o.v.kind, .int .i64 o.v.node, .int .i64 o.v.n, .slice o.A1 o.v.set.length o.c1, .slice o.A2 o.v.keep.length o.c2, .slice A3 k c3] ∧ wr.ownsRow w.heap.size 5 1 (.slice A3 k c3) k (Lib.byteCells d) ∧ w.grownBy wr (some g))) (fun i _ => s.size + 2 - (intOf i).toNat)
    case atStart =>
      refine ⟨0, [], none, 0, Nat.zero_le _, rfl, Lib.hid ⟨rfl, rfl, ?_, World.ownsRow_nil _ _ _ _, World.grownBy.refl _ _⟩⟩
      have h := HX.out.2.2.2.1
      unfold OpM.val at h
      rwa [H3.out.1, H3.out.2.1, H3.out.2.2] at h
    case round =>
      obtain ⟨k, d, A3, c3, hk, rfl, HI⟩ := hrel
      rename World => wr
      by_cases hlt : k < m
      · have d1 : decide (2 * (k : Int) < (s.size : Int)) = true := by have := HM.out; simp; omega
        have hkb : k ≤ 50000 := by have := HM.out; omega
        have k1 : 2 * k < l.length := by rw [HX.out.2.2.1, HM.out]; omega
        have k2 : 2 * k + 1 < l.length := by rw [HX.out.2.2.1, HM.out]; omega
        obtain ⟨x, hx⟩ : ∃ x, l[2 * k]? = some x := ⟨_, List.getElem?_eq_getElem k1⟩
        obtain ⟨y, hy⟩ : ∃ y, l[2 * k + 1]? = some y := ⟨_, List.getElem?_eq_getElem k2⟩
        obtain ⟨X, hX⟩ : ∃ X : Int, X = (x.toNat : Int) := ⟨_, rfl⟩
        obtain ⟨Y, hY⟩ : ∃ Y : Int, Y = (y.toNat : Int) := ⟨_, rfl⟩
        have hi1 : ∀ W, Sem.run Tryd.prog (Instr.index 9 (.string s) (.int .i64 (2 * (k : Int)))) W = .ok (.int .u8 X) W := fun W => by
          have h := str_at s (2 * k) x (by rw [HX.out.2.1]; exact hx) W
          rw [← hX] at h
          exact h
        have hi2 : ∀ W, Sem.run Tryd.prog (Instr.index 9 (.string s) (.int .i64 (2 * (k : Int) + 1))) W = .ok (.int .u8 Y) W := fun W => by
          have h := str_at s (2 * k + 1) y (by rw [HX.out.2.1]; exact hy) W
          rw [← hY] at h
          exact h
        obtain ⟨U, hU⟩ : ∃ U, U = nibS x := ⟨_, rfl⟩
        obtain ⟨V, hV⟩ : ∃ V, V = nibS y := ⟨_, rfl⟩
        have C1 := Lib.hid (fun z : Gr wr => rdigit_is x X hX z.1)
        have C2 := Lib.hid (fun z : Gr wr => rdigit_is y Y hY z.1)
        rw [← hU] at C1
        rw [← hV] at C2
        have bU := nib_lt x
        have bV := nib_lt y
        rw [← hU] at bU
        rw [← hV] at bV
        have e9 : l = l.take (2 * k) ++ (x :: y :: l.drop (2 * k + 2)) := by
          conv => lhs; rw [← List.take_append_drop (2 * k) l]
          rw [List.drop_eq_getElem_cons k1, List.drop_eq_getElem_cons k2]
          obtain ⟨_, ex⟩ := List.getElem?_eq_some_iff.1 hx
          obtain ⟨_, ey⟩ := List.getElem?_eq_some_iff.1 hy
          rw [ex, ey]
        have hl2 : (l.take (2 * k)).length = 2 * k := by rw [List.length_take]; omega
        have htk : l.take (2 * (k + 1)) = l.take (2 * k) ++ [x, y] := by
          rw [show 2 * (k + 1) = 2 * k + 1 + 1 by omega, List.take_add_one, List.take_add_one, hx, hy]
          simp
        have HH := Lib.hid (And.intro hU (And.intro hV (And.intro e9 (And.intro hl2 htk))))
        clear hx hy hU hV hX hY e9 hl2 htk k1 k2
        have bad : ∀ h : nibS x < 0 ∨ nibS y < 0, readHex l = none := fun h => by
          obtain ⟨_, _, e9, hl2, _⟩ := HH.out
          rw [e9, readHex_append k _ _ hl2, HI.out.2.1]
          simp only []
          rw [readHex, if_pos h]; rfl
        have BAD := Lib.hid bad
        clear bad
        go_upto_region 19 with (fail)
        refine wp_region_grown (by kernel_rfl) (by kernel_rfl) ?_
        repeat (go_big_quiet_step (first
          | (go_at_call 32; with_reducible exact Calls.grown _ (C1.out _))
          | (go_at_call 32; with_reducible exact Calls.grown _ (C2.out _))))
        refine wpQuiet_nil ?_
        rintro w2 ⟨⟨_, k2⟩, rfl⟩
        have HG := Lib.hid (And.intro k2 (grown_trans HI.out.2.2.2.2 (grown_weak k2 (some g))))
        clear k2
        by_cases hu : U < 0
        · have d2 : decide (U < 0) = true := by simpa using hu
          have HB := Lib.hid (BAD.out (.inl (by rw [← HH.out.1]; exact hu)))
          go_wp2_with fail
          rw [HX.out.1]
          exact ⟨HG.out.2, by rw [hr.out, HB.out]; rfl⟩
        · have d2 : decide (U < 0) = false := by simpa using hu
          by_cases hv : V < 0
          · have d3 : decide (V < 0) = true := by simpa using hv
            have HB := Lib.hid (BAD.out (.inr (by rw [← HH.out.2.1]; exact hv)))
            go_wp2_with fail
            rw [HX.out.1]
            exact ⟨HG.out.2, by rw [hr.out, HB.out]; rfl⟩
          · have d3 : decide (V < 0) = false := by simpa using hv
            have b2 := HI.out.2.2.1.grown HG.out.1 (by simp)
            have o2 := own_gr HI.out.2.2.2.1 HG.out.1
            have c5 : w2.cell? ⟨g, 5, none⟩ = some (.slice A3 k c3) := b2.cell 5
            have f5 := b2.frozen 5
            have HB := Lib.hid (And.intro b2 o2)
            clear b2 o2
            have hbz : w.heap.size ≤ w2.heap.size := HG.out.2.size
            obtain ⟨Z, hZ⟩ : ∃ Z, Z = 16 * U + V := ⟨_, rfl⟩
            have hrun : ∃ A' c' w', (Builtin.append_ #[37, 37] 37 #[.slice A3 k c3, .slice (some ⟨w2.heap.size, 0, none⟩) 1 1]).run Tryd.prog (w2.alloc (.cells #[.int .u8 Z] 5)) = .ok (.slice A' (k + 1) c') w' ∧ w'.ownsRow w.heap.size 5 1 (.slice A' (k + 1) c') (k + 1) (Lib.byteCells d ++ [.int .u8 Z]) ∧ w2.grownBy w' (Value.slice A3 k c3).ownBlock := by
              obtain ⟨v', w', h1, h2, h3⟩ := push_run w2 37 37 5 5 i0 (.int .u8 0) 1 Tryd.underlying37 HI0.out.1 HI0.out.2.1 HI0.out.2.2.1 HI0.out.2.2.2 rfl w.heap.size (.slice A3 k c3) k _ HB.out.2 [.int .u8 Z] (by simp [Value.oneCell']) (by omega) (by simp) (by omega) hbz
              obtain ⟨A', c', rfl⟩ := own_slice _ h2
              exact ⟨A', c', w', h1, h2, h3⟩
            obtain ⟨A', c', w3, hrun, hown3, hgrow⟩ := hrun
            have b3 := HB.out.1.grown hgrow (own_ne HB.out.2 HB.out.1 (by decide)).symm
            have c6 : w3.cell? ⟨g, 5, none⟩ = some (.slice A3 k c3) := b3.cell 5
            have f6 := b3.frozen 5
            have gs := gset w3 g 5 (.slice A' (k + 1) c')
            have g3 : w.grownBy w3 (some g) := by
              cases hob : (Value.slice A3 k c3).ownBlock with
              | none => rw [hob] at hgrow; exact grown_trans HG.out.2 (grown_weak hgrow (some g))
              | some gx => rw [hob] at hgrow; exact grown_fresh HG.out.2 hgrow (HB.out.2.lt gx hob).1
            have HN := Lib.hid (And.intro (b3.set 5 (.slice A' (k + 1) c')) (And.intro (own_apart hown3 b3 (by decide) gs) (And.intro (grown_trans g3 gs) hZ)))
            rw [hZ] at hrun
            clear b3 gs g3 hown3 hgrow hbz hZ
            go_wp2_with (at_builtin
                         refine wpList_plain rfl fun K9 hK9 => wp_append rfl rfl rfl hrun (hK9 _ _ ?_))
            go_roundw
            case rel =>
              obtain ⟨hd, hrd, _, _, _⟩ := HI.out
              obtain ⟨hU, hV, _, hl2, htk⟩ := HH.out
              obtain ⟨n1, n2, n3, hZ⟩ := HN.out
              have hz : Z = ((UInt8.ofNat (16 * U.toNat + V.toNat)).toNat : Int) := by rw [hZ]; simp; omega
              refine ⟨k + 1, d ++ [UInt8.ofNat (16 * U.toNat + V.toNat)], A', c', by omega, by congr 1 <;> omega, Lib.hid ⟨by simp [hd], ?_, n1, ?_, n3⟩⟩
              · rw [htk, readHex_append k _ _ hl2, hrd]
                simp only []
                rw [readHex, if_neg (by rw [← hU, ← hV]; omega), ← hU, ← hV]
                rfl
              · rw [Lib.byteCells, List.map_append]
                rw [hz] at n2
                exact n2
            case measure => have := HM.out; simp [intOf]; omega
      · have d1 : decide (2 * (k : Int) < (s.size : Int)) = false := by have := HM.out; simp; omega
        obtain rfl : k = m := by omega
        have HN := Lib.hid (show readHex l = some d by
          have := HI.out.2.1
          rwa [List.take_of_length_le (by rw [HX.out.2.2.1, HM.out]; exact Nat.le_refl _)] at this)
        go_wp2_with fail
        rw [HX.out.1]
        refine ⟨HI.out.2.2.2.2, ?_⟩
        rw [hr.out, HN.out]
        obtain ⟨hd, _, hb, hown, hg⟩ := HI.out
        subst hd
        have h9 := HX.out.2.2.2.2.1.apartR HX.out.2.2.2.1 hg
        exact ⟨⟨{ o.v with data := d }, o.A1, o.c1, o.A2, o.c2, A3, c3⟩, rfl, rfl, hb, ⟨h9.1, h9.2.1, own_mono hown HX.out.2.2.2.2.2.1⟩, fun c' hne h => ⟨fun e => absurd e hne, h.2.1, h.2.2⟩⟩
  · have q2 : ((s.size : Int) % 2) = 1 := by omega
    have q3 : ((s.size : Int).tmod 2) = 1 := by rw [Int.tmod_eq_emod_of_nonneg (by omega)]; omega
    have HN := Lib.hid (show readHex l = none by
      have hk1 : 2 * m < l.length := by omega
      have e : l = l.take (2 * m) ++ [l[2 * m]] := by
        conv => lhs; rw [← List.take_append_drop (2 * m) l]
        rw [List.drop_eq_getElem_cons hk1, List.drop_of_length_le (by omega)]
      rw [e, readHex_append m _ _ (by rw [List.length_take]; omega)]
      cases readHex (l.take (2 * m)) <;> simp [readHex])
    go_enter Tryd.func19, Tryd.ntmps19
    go_wp2_with fail
    rw [HX.out.1]
    exact ⟨World.grownBy.refl _ _, by rw [hr.out, HN.out]; rfl⟩
end Go.Proofs.YtonkdcbmmdhjgaaDoor
