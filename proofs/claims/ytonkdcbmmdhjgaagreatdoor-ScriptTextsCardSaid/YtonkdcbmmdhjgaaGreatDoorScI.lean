/-
  Ops in memory; script.read.
-/
import Derived.Test.YtonkdcbmmdhjgaaGreatDoorScH
namespace Go.Proofs.YtonkdcbmmdhjgaaGreatDoor
open Go.RowKit Go.Shelf

/-- An op, and where its lists lie. -/
structure OpM where
  v : OpV
  A1 : Option Addr
  c1 : Nat
  A2 : Option Addr
  c2 : Nat
  A3 : Option Addr
  c3 : Nat
def OpM.val (o : OpM) : Array Value := #[.int .i64 o.v.kind, .int .i64 o.v.node, .int .i64 o.v.n, .slice o.A1 o.v.set.length o.c1, .slice o.A2 o.v.keep.length o.c2, .slice o.A3 o.v.data.length o.c3]
/-- Its lists are rows of one's own. -/
def OpM.Own (w : World) (base : Nat) (o : OpM) : Prop := w.ownsRow base 3 1 (.slice o.A1 o.v.set.length o.c1) o.v.set.length (o.v.set.map (Value.int .i64)) ∧
  w.ownsRow base 4 1 (.slice o.A2 o.v.keep.length o.c2) o.v.keep.length (o.v.keep.map Value.bool) ∧ w.ownsRow base 5 1 (.slice o.A3 o.v.data.length o.c3) o.v.data.length (Lib.byteCells o.v.data)
def OpM.zero : OpM := ⟨OpV.zero, none, 0, none, 0, none, 0⟩
theorem OpM.zero_own (w : World) (base : Nat) : OpM.zero.Own w base := ⟨World.ownsRow_nil _ _ _ _, World.ownsRow_nil _ _ _ _, World.ownsRow_nil _ _ _ _⟩
theorem own_gr {w w' : World} {base size n : Nat} {e : TypeId} {v : Value} {xs : List Value} (h : w.ownsRow base e size v n xs) (g : w.grownBy w' none) : w'.ownsRow base e size v n xs :=
  own_kept h (Kept.of_grown (F := fun _ => False) g fun _ e => by cases e) (fun _ _ h => h)
theorem OpM.Own.grown {w w' : World} {base : Nat} {o : OpM} (h : o.Own w base) (g : w.grownBy w' none) : o.Own w' base := ⟨own_gr h.1 g, own_gr h.2.1 g, own_gr h.2.2 g⟩
/-- A block that holds an op is none of the lists' blocks. -/
theorem own_apart {w w' : World} {base size n : Nat} {e : TypeId} {v : Value} {xs : List Value} {g : Nat} {t : TypeId} {cs : Array Value} (h : w.ownsRow base e size v n xs) (hg : Blk w g t cs) (hne : e ≠ t) (hw : w.grownBy w' (some g)) : w'.ownsRow base e size v n xs :=
  own_kept h (Kept.of_grown (F := fun k => k = g) hw fun j e => (Option.some.inj e).symm) fun k hk e => own_ne h hg hne (by rw [hk, e])
theorem OpM.Own.apart {w w' : World} {base : Nat} {o : OpM} {g : Nat} {cs : Array Value} (h : o.Own w base) (hg : Blk w g 29 cs) (hw : w.grownBy w' (some g)) : o.Own w' base :=
  ⟨own_apart h.1 hg (by decide) hw, own_apart h.2.1 hg (by decide) hw, own_apart h.2.2 hg (by decide) hw⟩
theorem own_mono {w : World} {base base' size n : Nat} {e : TypeId} {v : Value} {xs : List Value} (h : w.ownsRow base e size v n xs) (hb : base' ≤ base) : w.ownsRow base' e size v n xs :=
  ⟨h.1, h.2.imp id fun ⟨g, cap, cur, e1, e2, e3⟩ => ⟨g, cap, cur, e1, Nat.le_trans hb e2, e3⟩⟩
theorem OpM.Own.mono {w : World} {base base' : Nat} {o : OpM} (h : o.Own w base) (hb : base' ≤ base) : o.Own w base' := ⟨own_mono h.1 hb, own_mono h.2.1 hb, own_mono h.2.2 hb⟩
/-- What read leaves. -/
def ReadPost (w : World) (g base : Nat) (c : UInt8) (l : List UInt8) (o : OpM) (e : Ending) (w' : World) : Prop := w.grownBy w' (some g) ∧ match readS c l o.v with
  | some v => ∃ o' : OpM, o'.v = v ∧ e = .returned (.bool true) ∧ Blk w' g 29 o'.val ∧ o'.Own w' base
  | none => e = .returned (.bool false)
set_option maxRecDepth 100000 in
set_option maxHeartbeats 2000000 in
theorem read_is (w : World) (he : ScEnv w) (g base : Nat) (o : OpM) (hb : Blk w g 29 o.val) (ho : o.Own w base) (hbase : base ≤ w.heap.size) (c : UInt8) (C : Int) (hC : C = (c.toNat : Int)) (s : ByteArray) (hs : s.size ≤ 100000) :
    Calls Tryz.prog 14 #[.pointer (some ⟨g, 0, none⟩), .int .u8 C, .string s] w (ReadPost w g base c s.data.toList o) := by
  obtain ⟨l, hl⟩ : ∃ l, l = s.data.toList := ⟨_, rfl⟩
  obtain ⟨Q, hQ⟩ : ∃ Q, Q = ReadPost w g base c l o := ⟨_, rfl⟩
  rw [← hl, ← hQ]
  have HQ := Lib.hid hQ
  have HL := Lib.hid (And.intro hl (And.intro he (And.intro hb (And.intro ho hbase))))
  clear hQ hl he ho hbase
  by_cases h105 : c = 105
  · have hC' : C = 105 := by rw [hC, h105]; rfl
    subst hC'
    have HN := Lib.hid (show Calls Tryz.prog 25 #[.string s] w fun e w' => e = .returned (.tuple #[.int .i64 (numV l), .bool (numOk l)]) ∧ w.grownBy w' none by have := number_is s (by omega) w HL.out.2.1; rwa [← HL.out.1] at this)
    obtain ⟨V, hV⟩ : ∃ V, V = numV l := ⟨_, rfl⟩
    obtain ⟨K, hK⟩ : ∃ K, K = numOk l := ⟨_, rfl⟩
    rw [← hV, ← hK] at HN
    have HK := Lib.hid (And.intro hV (And.intro hK h105))
    clear hV hK h105 hC hb
    go_enter Tryz.func14, Tryz.ntmps14
    go_wp2_with fail
    refine HN.out.mono ?_
    rintro e w1 ⟨rfl, k1⟩
    have b1 := HL.out.2.2.1.grown k1 (by simp)
    have c1 : w1.cell? ⟨g, 1, none⟩ = some (.int .i64 o.v.node) := b1.cell 1
    have f1 := b1.frozen 1
    have HB := Lib.hid (And.intro b1 (And.intro (HL.out.2.2.2.1.grown k1) k1))
    clear b1 k1
    go_wp2_with fail
    obtain ⟨b1, o1, k1⟩ := HB.out
    obtain ⟨hV, hK, hc⟩ := HK.out
    have gs := gset w1 g 1 (.int .i64 V)
    rw [HQ.out]
    refine ⟨grown_trans (grown_weak k1 (some g)) gs, ?_⟩
    have hr : readS c l o.v = (numS l).map fun v => { o.v with node := v } := by rw [hc]; rfl
    rw [hr]
    cases hn : numS l with
    | none =>
      have : K = false := by rw [hK, numOk, hn]; rfl
      rw [this]; rfl
    | some u =>
      have h1 : K = true := by rw [hK, numOk, hn]; rfl
      have h2 : V = u := by rw [hV, numV, hn]; rfl
      rw [h1, h2]
      rw [h2] at gs
      exact ⟨⟨{ o.v with node := u }, o.A1, o.c1, o.A2, o.c2, o.A3, o.c3⟩, rfl, rfl, b1.set 1 (.int .i64 u), o1.apart b1 gs⟩
  by_cases h110 : c = 110
  · have hC' : C = 110 := by rw [hC, h110]; rfl
    subst hC'
    have HN := Lib.hid (show Calls Tryz.prog 25 #[.string s] w fun e w' => e = .returned (.tuple #[.int .i64 (numV l), .bool (numOk l)]) ∧ w.grownBy w' none by have := number_is s (by omega) w HL.out.2.1; rwa [← HL.out.1] at this)
    obtain ⟨V, hV⟩ : ∃ V, V = numV l := ⟨_, rfl⟩
    obtain ⟨K, hK⟩ : ∃ K, K = numOk l := ⟨_, rfl⟩
    rw [← hV, ← hK] at HN
    have HK := Lib.hid (And.intro hV (And.intro hK h110))
    clear hV hK h110 hC hb
    go_enter Tryz.func14, Tryz.ntmps14
    go_wp2_with fail
    refine HN.out.mono ?_
    rintro e w1 ⟨rfl, k1⟩
    have b1 := HL.out.2.2.1.grown k1 (by simp)
    have c1 : w1.cell? ⟨g, 2, none⟩ = some (.int .i64 o.v.n) := b1.cell 2
    have f1 := b1.frozen 2
    have HB := Lib.hid (And.intro b1 (And.intro (HL.out.2.2.2.1.grown k1) k1))
    clear b1 k1
    go_wp2_with fail
    obtain ⟨b1, o1, k1⟩ := HB.out
    obtain ⟨hV, hK, hc⟩ := HK.out
    have gs := gset w1 g 2 (.int .i64 V)
    rw [HQ.out]
    refine ⟨grown_trans (grown_weak k1 (some g)) gs, ?_⟩
    have hr : readS c l o.v = (numS l).map fun v => { o.v with n := v } := by rw [hc]; rfl
    rw [hr]
    cases hn : numS l with
    | none =>
      have : K = false := by rw [hK, numOk, hn]; rfl
      rw [this]; rfl
    | some u =>
      have h1 : K = true := by rw [hK, numOk, hn]; rfl
      have h2 : V = u := by rw [hV, numV, hn]; rfl
      rw [h1, h2]
      rw [h2] at gs
      exact ⟨⟨{ o.v with n := u }, o.A1, o.c1, o.A2, o.c2, o.A3, o.c3⟩, rfl, rfl, b1.set 2 (.int .i64 u), o1.apart b1 gs⟩
  by_cases h120 : c = 120
  · have hC' : C = 120 := by rw [hC, h120]; rfl
    subst hC'
    have HN := Lib.hid (show Calls Tryz.prog 26 #[.string s] w (BytesPost w l) by have := bytes_is s hs w; rwa [← HL.out.1] at this)
    have HK := Lib.hid h120
    have hr := Lib.hid (show readS c l o.v = (bytesS l).map fun v => { o.v with data := v } by rw [h120]; rfl)
    clear h120 hC hb
    go_enter Tryz.func14, Tryz.ntmps14
    go_wp2_with fail
    refine HN.out.mono ?_
    rintro e w1 ⟨k1, hp⟩
    have b1 := HL.out.2.2.1.grown k1 (by simp)
    have c1 : w1.cell? ⟨g, 5, none⟩ = some (.slice o.A3 o.v.data.length o.c3) := b1.cell 5
    have f1 := b1.frozen 5
    have HB := Lib.hid (And.intro b1 (And.intro (HL.out.2.2.2.1.grown k1) k1))
    clear b1 k1
    cases hn : bytesS l with
    | none =>
      rw [hn] at hp
      obtain ⟨A, n, c3, rfl⟩ := hp
      have Hn := Lib.hid hn
      clear hn
      go_wp2_with fail
      obtain ⟨b1, o1, k1⟩ := HB.out
      have gs := gset w1 g 5 (.slice A n c3)
      rw [HQ.out]
      refine ⟨grown_trans (grown_weak k1 (some g)) gs, ?_⟩
      rw [hr.out, Hn.out]; rfl
    | some u =>
      rw [hn] at hp
      obtain ⟨A, c, rfl, hown⟩ := hp
      obtain ⟨n, hnn⟩ : ∃ n, n = u.length := ⟨_, rfl⟩
      rw [← hnn] at hown ⊢
      have Hn := Lib.hid (And.intro hn (And.intro hown hnn))
      clear hn hown hnn
      go_wp2_with fail
      obtain ⟨b1, o1, k1⟩ := HB.out
      obtain ⟨hn, hown, hnn⟩ := Hn.out
      subst hnn
      have gs := gset w1 g 5 (.slice A u.length c)
      rw [HQ.out]
      refine ⟨grown_trans (grown_weak k1 (some g)) gs, ?_⟩
      rw [hr.out, hn]
      exact ⟨⟨{ o.v with data := u }, o.A1, o.c1, o.A2, o.c2, A, c⟩, rfl, rfl, b1.set 5 (.slice A u.length c), ⟨(o1.apart b1 gs).1, (o1.apart b1 gs).2.1, own_apart (own_mono hown HL.out.2.2.2.2) b1 (by decide) gs⟩⟩
  by_cases h112 : c = 112
  · have hC' : C = 112 := by rw [hC, h112]; rfl
    subst hC'
    have HN := Lib.hid (show Calls Tryz.prog 27 #[.string s] w (PowPost w l) by have := pow_is s hs w HL.out.2.1; rwa [← HL.out.1] at this)
    have HK := Lib.hid h112
    have hr := Lib.hid (show readS c l o.v = (powS l).map fun v => { o.v with set := v } by rw [h112]; rfl)
    clear h112 hC hb
    go_enter Tryz.func14, Tryz.ntmps14
    go_wp2_with fail
    refine HN.out.mono ?_
    rintro e w1 ⟨k1, hp⟩
    have b1 := HL.out.2.2.1.grown k1 (by simp)
    have c1 : w1.cell? ⟨g, 3, none⟩ = some (.slice o.A1 o.v.set.length o.c1) := b1.cell 3
    have f1 := b1.frozen 3
    have HB := Lib.hid (And.intro b1 (And.intro (HL.out.2.2.2.1.grown k1) k1))
    clear b1 k1
    cases hn : powS l with
    | none =>
      rw [hn] at hp
      obtain ⟨A, n, c3, rfl⟩ := hp
      have Hn := Lib.hid hn
      clear hn
      go_wp2_with fail
      obtain ⟨b1, o1, k1⟩ := HB.out
      have gs := gset w1 g 3 (.slice A n c3)
      rw [HQ.out]
      refine ⟨grown_trans (grown_weak k1 (some g)) gs, ?_⟩
      rw [hr.out, Hn.out]; rfl
    | some u =>
      rw [hn] at hp
      obtain ⟨A, c, rfl, hown⟩ := hp
      obtain ⟨n, hnn⟩ : ∃ n, n = u.length := ⟨_, rfl⟩
      rw [← hnn] at hown ⊢
      have Hn := Lib.hid (And.intro hn (And.intro hown hnn))
      clear hn hown hnn
      go_wp2_with fail
      obtain ⟨b1, o1, k1⟩ := HB.out
      obtain ⟨hn, hown, hnn⟩ := Hn.out
      subst hnn
      have gs := gset w1 g 3 (.slice A u.length c)
      rw [HQ.out]
      refine ⟨grown_trans (grown_weak k1 (some g)) gs, ?_⟩
      rw [hr.out, hn]
      exact ⟨⟨{ o.v with set := u }, A, c, o.A2, o.c2, o.A3, o.c3⟩, rfl, rfl, b1.set 3 (.slice A u.length c), ⟨own_apart (own_mono hown HL.out.2.2.2.2) b1 (by decide) gs, (o1.apart b1 gs).2⟩⟩
  by_cases h98 : c = 98
  · have hC' : C = 98 := by rw [hC, h98]; rfl
    subst hC'
    have HN := Lib.hid (show Calls Tryz.prog 28 #[.string s] w (BitsPost w l) by have := bits_is s hs w; rwa [← HL.out.1] at this)
    have HK := Lib.hid h98
    have hr := Lib.hid (show readS c l o.v = (bitsS l).map fun v => { o.v with keep := v } by rw [h98]; rfl)
    clear h98 hC hb
    go_enter Tryz.func14, Tryz.ntmps14
    go_wp2_with fail
    refine HN.out.mono ?_
    rintro e w1 ⟨k1, hp⟩
    have b1 := HL.out.2.2.1.grown k1 (by simp)
    have c1 : w1.cell? ⟨g, 4, none⟩ = some (.slice o.A2 o.v.keep.length o.c2) := b1.cell 4
    have f1 := b1.frozen 4
    have HB := Lib.hid (And.intro b1 (And.intro (HL.out.2.2.2.1.grown k1) k1))
    clear b1 k1
    cases hn : bitsS l with
    | none =>
      rw [hn] at hp
      obtain ⟨A, n, c3, rfl⟩ := hp
      have Hn := Lib.hid hn
      clear hn
      go_wp2_with fail
      obtain ⟨b1, o1, k1⟩ := HB.out
      have gs := gset w1 g 4 (.slice A n c3)
      rw [HQ.out]
      refine ⟨grown_trans (grown_weak k1 (some g)) gs, ?_⟩
      rw [hr.out, Hn.out]; rfl
    | some u =>
      rw [hn] at hp
      obtain ⟨A, c, rfl, hown⟩ := hp
      obtain ⟨n, hnn⟩ : ∃ n, n = u.length := ⟨_, rfl⟩
      rw [← hnn] at hown ⊢
      have Hn := Lib.hid (And.intro hn (And.intro hown hnn))
      clear hn hown hnn
      go_wp2_with fail
      obtain ⟨b1, o1, k1⟩ := HB.out
      obtain ⟨hn, hown, hnn⟩ := Hn.out
      subst hnn
      have gs := gset w1 g 4 (.slice A u.length c)
      rw [HQ.out]
      refine ⟨grown_trans (grown_weak k1 (some g)) gs, ?_⟩
      rw [hr.out, hn]
      exact ⟨⟨{ o.v with keep := u }, o.A1, o.c1, A, c, o.A3, o.c3⟩, rfl, rfl, b1.set 4 (.slice A u.length c), ⟨(o1.apart b1 gs).1, own_apart (own_mono hown HL.out.2.2.2.2) b1 (by decide) gs, (o1.apart b1 gs).2.2⟩⟩
  have e1 : ¬ C = 105 := fun e => h105 (UInt8.toNat_inj.1 (by have : (c.toNat : Int) = 105 := by omega
                                                              show _ = 105; omega))
  have e2 : ¬ C = 110 := fun e => h110 (UInt8.toNat_inj.1 (by show _ = 110; omega))
  have e3 : ¬ C = 120 := fun e => h120 (UInt8.toNat_inj.1 (by show _ = 120; omega))
  have e4 : ¬ C = 112 := fun e => h112 (UInt8.toNat_inj.1 (by show _ = 112; omega))
  have e5 : ¬ C = 98 := fun e => h98 (UInt8.toNat_inj.1 (by show _ = 98; omega))
  have HN := Lib.hid (show readS c l o.v = none by unfold readS; rw [if_neg h105, if_neg h110, if_neg h120, if_neg h112, if_neg h98])
  clear hb h105 h110 h120 h112 h98 hC
  go_enter Tryz.func14, Tryz.ntmps14
  go_wp2_with fail
  rw [HQ.out]
  exact ⟨World.grownBy.refl _ _, by rw [HN.out]; rfl⟩
end Go.Proofs.YtonkdcbmmdhjgaaGreatDoor
