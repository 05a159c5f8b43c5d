/-
  ScriptJoins.
-/
import Derived.Test.YtonkdcbmmdhjgaaDoorScU
namespace Go.Proofs.YtonkdcbmmdhjgaaDoor
open Go.RowKit Go.Shelf

/-- The library's variables and the two errors. -/
structure Env3 (w : World) (EL EF : Addr) : Prop where
  env : ScEnv w
  long : ErrAt w w.heap.size 0 EL
  form : ErrAt w w.heap.size 1 EF
theorem Env3.gr {w w' : World} {EL EF : Addr} (h : Env3 w EL EF) (g : w.grownBy w' none) : Env3 w' EL EF :=
  ⟨h.env.grown g, ⟨g.cell h.long.1 (by simp), Nat.lt_of_lt_of_le h.long.2 g.size⟩, ⟨g.cell h.form.1 (by simp), Nat.lt_of_lt_of_le h.form.2 g.size⟩⟩
theorem cat_data (a b : ByteArray) : (a ++ b).data.toList = a.data.toList ++ b.data.toList := by simp [ByteArray.data_append]
/-- The cells of an op in a row. -/
theorem row_cells {w : World} {b off k : Nat} {x : OpM} (h : w.rangeAt b (off + k * 6) x.val.toList) :
    w.cell? ⟨b, off + k * 6, none⟩ = some (.int .i64 x.v.kind) ∧ w.cell? ⟨b, off + k * 6 + 1, none⟩ = some (.int .i64 x.v.node) ∧ w.cell? ⟨b, off + k * 6 + 2, none⟩ = some (.int .i64 x.v.n) ∧
    w.cell? ⟨b, off + k * 6 + 3, none⟩ = some (.slice x.A1 x.v.set.length x.c1) ∧ w.cell? ⟨b, off + k * 6 + 4, none⟩ = some (.slice x.A2 x.v.keep.length x.c2) ∧ w.cell? ⟨b, off + k * 6 + 5, none⟩ = some (.slice x.A3 x.v.data.length x.c3) :=
  ⟨h 0 _ rfl, h 1 _ rfl, h 2 _ rfl, h 3 _ rfl, h 4 _ rfl, h 5 _ rfl⟩
theorem range_gr {w w' : World} {b o : Nat} {cs : List Value} (h : w.rangeAt b o cs) (g : w.grownBy w' none) : w'.rangeAt b o cs := fun j v hv => g.cell (h j v hv) (by simp)
/-- Line, of an op that has one. -/
theorem line_ok (w : World) (EL EF : Addr) (he : Env3 w EL EF) (o : OpM) (ho : o.At w) (hf : o.v.Fit) (hr : rightS o.v) (v : OpV) (hv : o.v = v) :
    Calls Tryd.prog 13 #[.agg #[.int .i64 o.v.kind, .int .i64 o.v.node, .int .i64 o.v.n, .slice o.A1 o.v.set.length o.c1, .slice o.A2 o.v.keep.length o.c2, .slice o.A3 o.v.data.length o.c3]] w fun e w' => e = .returned (.tuple #[.string (strB (lineT v)), .nilIface]) ∧ w.grownBy w' none := by
  refine (line_is w he.env EF he.form o ho hf).mono ?_
  rintro e w' ⟨g, hp⟩
  rw [lineS_eq, if_pos hr] at hp
  subst hv
  exact ⟨hp, g⟩
set_option maxRecDepth 100000 in
set_option maxHeartbeats 2000000 in
theorem joins_is (a b : ByteArray) (w : World) (EL EF : Addr) (he : Env3 w EL EF) :
    Calls Tryd.prog 5 #[.string a, .string b] w fun e w' => e = .returned (.bool true) ∧ w.grownBy w' none := by
  have HA := Lib.hid (alive_is w he.env EL EF he.long he.form)
  have HE := Lib.hid he
  clear he
  go_enter Tryd.func5, Tryd.ntmps5
  go_wp2_with fail
  refine HA.out.mono ?_
  rintro e w1 ⟨rfl, k1⟩
  have H1 := Lib.hid (HE.out.gr k1)
  have K1 := Lib.hid k1
  clear k1
  by_cases ha : 1000 < a.size
  · have d1 : decide ((1000 : Int) < (a.size : Int)) = true := by simp; omega
    go_wp2_with fail
    go_ret
    exact ⟨rfl, K1.out⟩
  have d1 : decide ((1000 : Int) < (a.size : Int)) = false := by simp; omega
  by_cases hb : 1000 < b.size
  · have d2 : decide ((1000 : Int) < (b.size : Int)) = true := by simp; omega
    go_wp2_with fail
    go_ret
    exact ⟨rfl, K1.out⟩
  have d2 : decide ((1000 : Int) < (b.size : Int)) = false := by simp; omega
  obtain ⟨la, hla⟩ : ∃ l, l = a.data.toList := ⟨_, rfl⟩
  obtain ⟨lb, hlb⟩ : ∃ l, l = b.data.toList := ⟨_, rfl⟩
  have HL := Lib.hid (show a.data.toList = la ∧ b.data.toList = lb ∧ la.length ≤ 1000 ∧ lb.length ≤ 1000 ∧ (a ++ b).data.toList = la ++ lb from by
    have h1 : a.data.toList.length = a.size := Array.length_toList
    have h2 : b.data.toList.length = b.size := Array.length_toList
    exact ⟨hla.symm, hlb.symm, by rw [hla]; omega, by rw [hlb]; omega, by rw [cat_data, hla, hlb]⟩)
  have hct : ¬ 9223372036854775807 < a.size + b.size := by omega
  clear hla hlb ha hb
  go_wp2_with fail
  refine (got_is a w1 H1.out.env EL EF H1.out.long H1.out.form la HL.out.1 (by have := HL.out.2.2.1; omega)).mono ?_
  rintro e w2 ⟨k2, p1⟩
  have H2 := Lib.hid (H1.out.gr k2)
  have K2 := Lib.hid (grown_trans K1.out k2)
  cases q1 : parseLs (splitP 10 la) with
  | none =>
    rw [q1] at p1
    subst p1
    clear q1 k2
    go_wp2_with fail
    refine (got_is b w2 H2.out.env EL EF H2.out.long H2.out.form lb HL.out.2.1 (by have := HL.out.2.2.2.1; omega)).mono ?_
    rintro e w3 ⟨k3, p2⟩
    have K3 := Lib.hid (grown_trans K2.out k3)
    clear k3
    cases q2 : parseLs (splitP 10 lb) with
    | none =>
      rw [q2] at p2
      subst p2
      clear q2
      go_wp2_with fail
      go_ret
      exact ⟨rfl, K3.out⟩
    | some vs =>
      rw [q2] at p2
      obtain ⟨ys, rfl, A2, c2, rfl, _⟩ := p2
      clear q2
      go_wp2_with fail
      go_ret
      exact ⟨rfl, K3.out⟩
  | some vs1 =>
    rw [q1] at p1
    obtain ⟨xs, hxs, A1, c1, rfl, g1⟩ := p1
    obtain ⟨n1, hn1⟩ : ∃ n1, n1 = xs.length := ⟨_, rfl⟩
    rw [← hn1]
    have G1 := Lib.hid (And.intro g1 (And.intro hn1 (And.intro hxs q1)))
    clear g1 hn1 hxs q1 k2
    go_wp2_with fail
    refine (got_is b w2 H2.out.env EL EF H2.out.long H2.out.form lb HL.out.2.1 (by have := HL.out.2.2.2.1; omega)).mono ?_
    rintro e w3 ⟨k3, p2⟩
    have H3 := Lib.hid (And.intro (H2.out.gr k3) k3)
    have K3 := Lib.hid (grown_trans K2.out k3)
    clear k3
    cases q2 : parseLs (splitP 10 lb) with
    | none =>
      rw [q2] at p2
      subst p2
      clear q2
      go_wp2_with fail
      go_ret
      exact ⟨rfl, K3.out⟩
    | some vs2 =>
      rw [q2] at p2
      obtain ⟨ys, hys, A2, c2, rfl, g2⟩ := p2
      obtain ⟨n2, hn2⟩ : ∃ n2, n2 = ys.length := ⟨_, rfl⟩
      rw [← hn2]
      have G2 := Lib.hid (And.intro g2 (And.intro hn2 (And.intro hys q2)))
      clear g2 hn2 hys q2
      go_wp2_with fail
      refine (got_is (a ++ b) w3 H3.out.1.env EL EF H3.out.1.long H3.out.1.form (la ++ lb) HL.out.2.2.2.2 (by have := HL.out; rw [List.length_append]; omega)).mono ?_
      rintro e w4 ⟨k4, p3⟩
      have K4 := Lib.hid (grown_trans K3.out k4)
      rw [parseLs_append G1.out.2.2.2 G2.out.2.2.2] at p3
      obtain ⟨zs, hzs, A3, c3, rfl, g3⟩ := p3
      obtain ⟨n3, hn3⟩ : ∃ n3, n3 = zs.length := ⟨_, rfl⟩
      have hsum : n3 = n1 + n2 := by
        have h := congrArg List.length hzs
        rw [List.length_map, List.length_append, ← G1.out.2.2.1, ← G2.out.2.2.1, List.length_map, List.length_map] at h
        rw [hn3, h, G1.out.2.1, G2.out.2.1]
      rw [← hn3]
      have hn4 : n3 ≤ 20000 := by rw [hn3]; exact g3.few
      have G := Lib.hid (show Got w4 A1 la xs ∧ Got w4 A2 lb ys ∧ Got w4 A3 (la ++ lb) zs ∧ zs.map (·.v) = xs.map (·.v) ++ ys.map (·.v) ∧ xs.length = n1 ∧ ys.length = n2 ∧ zs.length = n3 ∧ Env3 w4 EL EF from
        ⟨(G1.out.1.gr H3.out.2).gr k4, G2.out.1.gr k4, g3, by rw [hzs, G1.out.2.2.1, G2.out.2.2.1], G1.out.2.1.symm, G2.out.2.1.symm, hn3.symm, H3.out.1.gr k4⟩)
      have hn5 : n1 ≤ 20000 := by omega
      have hn6 : n2 ≤ 20000 := by omega
      have d3 : ((n3 : Int) != (n1 : Int) + (n2 : Int)) = false := by simp; omega
      have HS := Lib.hid hsum
      clear hsum hn3 hzs g3 k4 G1 G2 H1 H2 H3 HA HE
      go_wp2_with fail
      go_loopw [65] (fun i wr => ∃ k : Nat, k ≤ n3 ∧ i = .int .i64 (k : Int) ∧ w4.grownBy wr none) (fun i _ => n3 - (intOf i).toNat)
      case atStart => exact ⟨0, Nat.zero_le _, rfl, World.grownBy.refl _ _⟩
      case round =>
        obtain ⟨k, hk, rfl, hK⟩ := hrel
        have HK := Lib.hid hK
        rename World => wr
        clear hK
        by_cases hlt : k < n3
        · have d4 : decide ((k : Int) < (n3 : Int)) = true := by simp; omega
          obtain ⟨gx, gy, gz, hm, l1, l2, l3, hen⟩ := G.out
          have hkz : k < zs.length := by omega
          obtain ⟨b3, o3, rfl, hcz⟩ := (gz.row.gr HK.out) (by intro e; rw [e] at hkz; simp at hkz)
          obtain ⟨z, hz⟩ : ∃ z, z = zs[k] := ⟨_, rfl⟩
          have hrz := hcz k hkz
          rw [← hz] at hrz
          obtain ⟨z0, z1, z2, z3, z4, z5⟩ := row_cells hrz
          have hzm : z ∈ zs := by rw [hz]; exact List.getElem_mem hkz
          by_cases hk1 : k < n1
          · have d5 : decide ((k : Int) < (n1 : Int)) = true := by simp; omega
            have hkx : k < xs.length := by omega
            obtain ⟨b1, o1, rfl, hcx⟩ := (gx.row.gr HK.out) (by intro e; rw [e] at hkx; simp at hkx)
            obtain ⟨x, hx⟩ : ∃ x, x = xs[k] := ⟨_, rfl⟩
            have hrx := hcx k hkx
            rw [← hx] at hrx
            obtain ⟨x0, x1, x2, x3, x4, x5⟩ := row_cells hrx
            have hxm : x ∈ xs := by rw [hx]; exact List.getElem_mem hkx
            have HC := Lib.hid (And.intro hrx (And.intro hxm (And.intro hzm (show ∃ (h1 : k < zs.length) (h2 : k < xs.length), zs[k] = z ∧ xs[k] = x from ⟨hkz, hkx, hz.symm, hx.symm⟩))))
            clear gx gy gz hm l1 l2 l3 hen hcz hrz hkz hcx hrx hkx hz hx hzm hxm x0 x1 x2 x3 x4 x5
            go_upto_region 17 with (fail)
            obtain ⟨W0, hW0⟩ : ∃ W0, (wr.alloc (.cells #[.int .i64 z.v.kind, .int .i64 z.v.node, .int .i64 z.v.n, .slice z.A1 z.v.set.length z.c1, .slice z.A2 z.v.keep.length z.c2, .slice z.A3 z.v.data.length z.c3] 39)).alloc (.cells #[.int .i64 0, .int .i64 0, .int .i64 0, .slice none 0 0, .slice none 0 0, .slice none 0 0] 39) = W0 := ⟨_, rfl⟩
            rw [hW0]
            have bz : Blk W0 wr.heap.size 39 z.val := by rw [← hW0]; exact (Blk.new wr _ _).alloc _
            have bx : Blk W0 (wr.heap.size + 1) 39 OpM.zero.val := by
              have := Blk.new (wr.alloc (.cells #[.int .i64 z.v.kind, .int .i64 z.v.node, .int .i64 z.v.n, .slice z.A1 z.v.set.length z.c1, .slice z.A2 z.v.keep.length z.c2, .slice z.A3 z.v.data.length z.c3] 39)) 39 OpM.zero.val
              rw [World.size_alloc] at this
              rw [← hW0]; exact this
            have g0 : wr.grownBy W0 none := by rw [← hW0]; exact grown_trans (World.grownBy_alloc wr _ none) (World.grownBy_alloc _ _ none)
            obtain ⟨x0, x1, x2, x3, x4, x5⟩ := row_cells (range_gr HC.out.1 g0)
            have f0 := bx.frozen 0
            have f1 := bx.frozen 1
            have f2 := bx.frozen 2
            have f3 := bx.frozen 3
            have f4 := bx.frozen 4
            have f5 := bx.frozen 5
            have hin := bx.cell
            have i0 : W0.cell? ⟨wr.heap.size + 1, 0, none⟩ = some (.int .i64 0) := bx.cell 0
            have i1 : W0.cell? ⟨wr.heap.size + 1, 1, none⟩ = some (.int .i64 0) := bx.cell 1
            have i2 : W0.cell? ⟨wr.heap.size + 1, 2, none⟩ = some (.int .i64 0) := bx.cell 2
            have i3 : W0.cell? ⟨wr.heap.size + 1, 3, none⟩ = some (.slice none 0 0) := bx.cell 3
            have i4 : W0.cell? ⟨wr.heap.size + 1, 4, none⟩ = some (.slice none 0 0) := bx.cell 4
            have i5 : W0.cell? ⟨wr.heap.size + 1, 5, none⟩ = some (.slice none 0 0) := bx.cell 5
            have HZ := Lib.hid (And.intro bz (And.intro bx g0))
            clear hW0 bz bx g0 z0 z1 z2 z3 z4 z5 hin
            go_upto_region 19 with (fail)
            obtain ⟨V, hV⟩ : ∃ V, ((((((W0.setCell ⟨wr.heap.size + 1, 0, none⟩ (.int .i64 x.v.kind)).setCell ⟨wr.heap.size + 1, 1, none⟩ (.int .i64 x.v.node)).setCell ⟨wr.heap.size + 1, 2, none⟩ (.int .i64 x.v.n)).setCell ⟨wr.heap.size + 1, 3, none⟩ (.slice x.A1 x.v.set.length x.c1)).setCell ⟨wr.heap.size + 1, 4, none⟩ (.slice x.A2 x.v.keep.length x.c2)).setCell ⟨wr.heap.size + 1, 5, none⟩ (.slice x.A3 x.v.data.length x.c3)) = V := ⟨_, rfl⟩
            rw [hV]
            have bx : Blk V (wr.heap.size + 1) 39 x.val := by rw [← hV]; exact op_stored HZ.out.2.1 rfl _ _ _ _ _ _
            have bz : Blk V wr.heap.size 39 z.val := by rw [← hV]; exact (((((HZ.out.1.far (by simp) _).far (by simp) _).far (by simp) _).far (by simp) _).far (by simp) _).far (by simp) _
            have gV : wr.grownBy V none := by rw [← hV]; exact op_grown HZ.out.2.2 (by omega) _ _ _ _ _ _
            have HV := Lib.hid (And.intro bx (And.intro bz (grown_trans HK.out gV)))
            clear hV f0 f1 f2 f3 f4 f5 x0 x1 x2 x3 x4 x5 i0 i1 i2 i3 i4 i5 gV bx
            have z0 : V.cell? ⟨wr.heap.size, 0, none⟩ = some (.int .i64 z.v.kind) := bz.cell 0
            have z1 : V.cell? ⟨wr.heap.size, 1, none⟩ = some (.int .i64 z.v.node) := bz.cell 1
            have z2 : V.cell? ⟨wr.heap.size, 2, none⟩ = some (.int .i64 z.v.n) := bz.cell 2
            have z3 : V.cell? ⟨wr.heap.size, 3, none⟩ = some (.slice z.A1 z.v.set.length z.c1) := bz.cell 3
            have z4 : V.cell? ⟨wr.heap.size, 4, none⟩ = some (.slice z.A2 z.v.keep.length z.c2) := bz.cell 4
            have z5 : V.cell? ⟨wr.heap.size, 5, none⟩ = some (.slice z.A3 z.v.data.length z.c3) := bz.cell 5
            clear bz
            obtain ⟨S, hS⟩ : ∃ S, S = strB (lineT z.v) := ⟨_, rfl⟩
            have L1 := Lib.hid (line_ok V EL EF (G.out.2.2.2.2.2.2.2.gr HV.out.2.2) z ((G.out.2.2.1.lies z HC.out.2.2.1).gr HV.out.2.2) (G.out.2.2.1.fit z HC.out.2.2.1) (G.out.2.2.1.right z HC.out.2.2.1).1 z.v rfl)
            rw [← hS] at L1
            have HSS := Lib.hid hS
            clear hS
            go_wp2_with fail
            refine L1.out.mono ?_
            rintro e w5 ⟨rfl, k5⟩
            have bx := HV.out.1.grown k5 (by simp)
            have x0 : w5.cell? ⟨wr.heap.size + 1, 0, none⟩ = some (.int .i64 x.v.kind) := bx.cell 0
            have x1 : w5.cell? ⟨wr.heap.size + 1, 1, none⟩ = some (.int .i64 x.v.node) := bx.cell 1
            have x2 : w5.cell? ⟨wr.heap.size + 1, 2, none⟩ = some (.int .i64 x.v.n) := bx.cell 2
            have x3 : w5.cell? ⟨wr.heap.size + 1, 3, none⟩ = some (.slice x.A1 x.v.set.length x.c1) := bx.cell 3
            have x4 : w5.cell? ⟨wr.heap.size + 1, 4, none⟩ = some (.slice x.A2 x.v.keep.length x.c2) := bx.cell 4
            have x5 : w5.cell? ⟨wr.heap.size + 1, 5, none⟩ = some (.slice x.A3 x.v.data.length x.c3) := bx.cell 5
            have HK5 := Lib.hid (grown_trans HV.out.2.2 k5)
            have L2 := Lib.hid (line_ok w5 EL EF (G.out.2.2.2.2.2.2.2.gr HK5.out) x ((G.out.1.lies x HC.out.2.1).gr HK5.out) (G.out.1.fit x HC.out.2.1) (G.out.1.right x HC.out.2.1).1 z.v (by
              obtain ⟨h1, h2, e1, e2⟩ := HC.out.2.2.2
              have e3 : (zs.map (·.v))[k]? = some z.v := by rw [List.getElem?_map, List.getElem?_eq_getElem h1, e1]; rfl
              rw [G.out.2.2.2.1, List.getElem?_append_left (by rw [List.length_map]; exact h2), List.getElem?_map, List.getElem?_eq_getElem h2, e2] at e3
              exact Option.some.inj e3))
            rw [← HSS.out] at L2
            clear k5 bx z0 z1 z2 z3 z4 z5 L1
            go_wp2_with fail
            refine L2.out.mono ?_
            rintro e w6 ⟨rfl, k6⟩
            have HK6 := Lib.hid (grown_trans HK5.out k6)
            clear k6 x0 x1 x2 x3 x4 x5 L2
            go_wp2_with fail
            go_roundw
            case rel => exact ⟨k + 1, by omega, rfl, HK6.out⟩
            case measure => simp [intOf]; omega
          · obtain ⟨m, rfl⟩ : ∃ m, k = n1 + m := ⟨k - n1, by omega⟩
            have d5 : decide (((n1 + m : Nat) : Int) < (n1 : Int)) = false := by simp; omega
            have hm2 : m < n2 := by have := HS.out; omega
            have hkx : m < ys.length := by omega
            obtain ⟨b1, o1, rfl, hcx⟩ := (gy.row.gr HK.out) (by intro e; rw [e] at hkx; simp at hkx)
            obtain ⟨x, hx⟩ : ∃ x, x = ys[m] := ⟨_, rfl⟩
            have hrx := hcx m hkx
            rw [← hx] at hrx
            obtain ⟨x0, x1, x2, x3, x4, x5⟩ := row_cells hrx
            have hxm : x ∈ ys := by rw [hx]; exact List.getElem_mem hkx
            have HC := Lib.hid (And.intro hrx (And.intro hxm (And.intro hzm (show ∃ (h1 : n1 + m < zs.length) (h2 : m < ys.length), zs[n1 + m] = z ∧ ys[m] = x from ⟨hkz, hkx, hz.symm, hx.symm⟩))))
            clear gx gy gz hm l1 l2 l3 hen hcz hrz hkz hcx hrx hkx hz hx hzm hxm x0 x1 x2 x3 x4 x5
            go_upto_region 18 with (fail)
            obtain ⟨W0, hW0⟩ : ∃ W0, (wr.alloc (.cells #[.int .i64 z.v.kind, .int .i64 z.v.node, .int .i64 z.v.n, .slice z.A1 z.v.set.length z.c1, .slice z.A2 z.v.keep.length z.c2, .slice z.A3 z.v.data.length z.c3] 39)).alloc (.cells #[.int .i64 0, .int .i64 0, .int .i64 0, .slice none 0 0, .slice none 0 0, .slice none 0 0] 39) = W0 := ⟨_, rfl⟩
            rw [hW0]
            have bz : Blk W0 wr.heap.size 39 z.val := by rw [← hW0]; exact (Blk.new wr _ _).alloc _
            have bx : Blk W0 (wr.heap.size + 1) 39 OpM.zero.val := by
              have := Blk.new (wr.alloc (.cells #[.int .i64 z.v.kind, .int .i64 z.v.node, .int .i64 z.v.n, .slice z.A1 z.v.set.length z.c1, .slice z.A2 z.v.keep.length z.c2, .slice z.A3 z.v.data.length z.c3] 39)) 39 OpM.zero.val
              rw [World.size_alloc] at this
              rw [← hW0]; exact this
            have g0 : wr.grownBy W0 none := by rw [← hW0]; exact grown_trans (World.grownBy_alloc wr _ none) (World.grownBy_alloc _ _ none)
            obtain ⟨x0, x1, x2, x3, x4, x5⟩ := row_cells (range_gr HC.out.1 g0)
            have f0 := bx.frozen 0
            have f1 := bx.frozen 1
            have f2 := bx.frozen 2
            have f3 := bx.frozen 3
            have f4 := bx.frozen 4
            have f5 := bx.frozen 5
            have hin := bx.cell
            have i0 : W0.cell? ⟨wr.heap.size + 1, 0, none⟩ = some (.int .i64 0) := bx.cell 0
            have i1 : W0.cell? ⟨wr.heap.size + 1, 1, none⟩ = some (.int .i64 0) := bx.cell 1
            have i2 : W0.cell? ⟨wr.heap.size + 1, 2, none⟩ = some (.int .i64 0) := bx.cell 2
            have i3 : W0.cell? ⟨wr.heap.size + 1, 3, none⟩ = some (.slice none 0 0) := bx.cell 3
            have i4 : W0.cell? ⟨wr.heap.size + 1, 4, none⟩ = some (.slice none 0 0) := bx.cell 4
            have i5 : W0.cell? ⟨wr.heap.size + 1, 5, none⟩ = some (.slice none 0 0) := bx.cell 5
            have HZ := Lib.hid (And.intro bz (And.intro bx g0))
            clear hW0 bz bx g0 z0 z1 z2 z3 z4 z5 hin
            go_upto_region 19 with (fail)
            obtain ⟨V, hV⟩ : ∃ V, ((((((W0.setCell ⟨wr.heap.size + 1, 0, none⟩ (.int .i64 x.v.kind)).setCell ⟨wr.heap.size + 1, 1, none⟩ (.int .i64 x.v.node)).setCell ⟨wr.heap.size + 1, 2, none⟩ (.int .i64 x.v.n)).setCell ⟨wr.heap.size + 1, 3, none⟩ (.slice x.A1 x.v.set.length x.c1)).setCell ⟨wr.heap.size + 1, 4, none⟩ (.slice x.A2 x.v.keep.length x.c2)).setCell ⟨wr.heap.size + 1, 5, none⟩ (.slice x.A3 x.v.data.length x.c3)) = V := ⟨_, rfl⟩
            rw [hV]
            have bx : Blk V (wr.heap.size + 1) 39 x.val := by rw [← hV]; exact op_stored HZ.out.2.1 rfl _ _ _ _ _ _
            have bz : Blk V wr.heap.size 39 z.val := by rw [← hV]; exact (((((HZ.out.1.far (by simp) _).far (by simp) _).far (by simp) _).far (by simp) _).far (by simp) _).far (by simp) _
            have gV : wr.grownBy V none := by rw [← hV]; exact op_grown HZ.out.2.2 (by omega) _ _ _ _ _ _
            have HV := Lib.hid (And.intro bx (And.intro bz (grown_trans HK.out gV)))
            clear hV f0 f1 f2 f3 f4 f5 x0 x1 x2 x3 x4 x5 i0 i1 i2 i3 i4 i5 gV bx
            have z0 : V.cell? ⟨wr.heap.size, 0, none⟩ = some (.int .i64 z.v.kind) := bz.cell 0
            have z1 : V.cell? ⟨wr.heap.size, 1, none⟩ = some (.int .i64 z.v.node) := bz.cell 1
            have z2 : V.cell? ⟨wr.heap.size, 2, none⟩ = some (.int .i64 z.v.n) := bz.cell 2
            have z3 : V.cell? ⟨wr.heap.size, 3, none⟩ = some (.slice z.A1 z.v.set.length z.c1) := bz.cell 3
            have z4 : V.cell? ⟨wr.heap.size, 4, none⟩ = some (.slice z.A2 z.v.keep.length z.c2) := bz.cell 4
            have z5 : V.cell? ⟨wr.heap.size, 5, none⟩ = some (.slice z.A3 z.v.data.length z.c3) := bz.cell 5
            clear bz
            obtain ⟨S, hS⟩ : ∃ S, S = strB (lineT z.v) := ⟨_, rfl⟩
            have L1 := Lib.hid (line_ok V EL EF (G.out.2.2.2.2.2.2.2.gr HV.out.2.2) z ((G.out.2.2.1.lies z HC.out.2.2.1).gr HV.out.2.2) (G.out.2.2.1.fit z HC.out.2.2.1) (G.out.2.2.1.right z HC.out.2.2.1).1 z.v rfl)
            rw [← hS] at L1
            have HSS := Lib.hid hS
            clear hS
            go_wp2_with fail
            refine L1.out.mono ?_
            rintro e w5 ⟨rfl, k5⟩
            have bx := HV.out.1.grown k5 (by simp)
            have x0 : w5.cell? ⟨wr.heap.size + 1, 0, none⟩ = some (.int .i64 x.v.kind) := bx.cell 0
            have x1 : w5.cell? ⟨wr.heap.size + 1, 1, none⟩ = some (.int .i64 x.v.node) := bx.cell 1
            have x2 : w5.cell? ⟨wr.heap.size + 1, 2, none⟩ = some (.int .i64 x.v.n) := bx.cell 2
            have x3 : w5.cell? ⟨wr.heap.size + 1, 3, none⟩ = some (.slice x.A1 x.v.set.length x.c1) := bx.cell 3
            have x4 : w5.cell? ⟨wr.heap.size + 1, 4, none⟩ = some (.slice x.A2 x.v.keep.length x.c2) := bx.cell 4
            have x5 : w5.cell? ⟨wr.heap.size + 1, 5, none⟩ = some (.slice x.A3 x.v.data.length x.c3) := bx.cell 5
            have HK5 := Lib.hid (grown_trans HV.out.2.2 k5)
            have L2 := Lib.hid (line_ok w5 EL EF (G.out.2.2.2.2.2.2.2.gr HK5.out) x ((G.out.2.1.lies x HC.out.2.1).gr HK5.out) (G.out.2.1.fit x HC.out.2.1) (G.out.2.1.right x HC.out.2.1).1 z.v (by
              obtain ⟨h1, h2, e1, e2⟩ := HC.out.2.2.2
              have e3 : (zs.map (·.v))[n1 + m]? = some z.v := by rw [List.getElem?_map, List.getElem?_eq_getElem h1, e1]; rfl
              rw [G.out.2.2.2.1, List.getElem?_append_right (by rw [List.length_map, G.out.2.2.2.2.1]; omega), List.length_map, G.out.2.2.2.2.1, Nat.add_sub_cancel_left, List.getElem?_map, List.getElem?_eq_getElem h2, e2] at e3
              exact Option.some.inj e3))
            rw [← HSS.out] at L2
            clear k5 bx z0 z1 z2 z3 z4 z5 L1
            go_wp2_with fail
            refine L2.out.mono ?_
            rintro e w6 ⟨rfl, k6⟩
            have HK6 := Lib.hid (grown_trans HK5.out k6)
            clear k6 x0 x1 x2 x3 x4 x5 L2
            go_wp2_with fail
            go_roundw
            case rel => exact ⟨n1 + m + 1, by omega, rfl, HK6.out⟩
            case measure => simp [intOf]; omega
        · have d4 : decide ((k : Int) < (n3 : Int)) = false := by simp; omega
          go_wp2_with fail
          go_ret
          exact ⟨rfl, grown_trans K4.out HK.out⟩
end Go.Proofs.YtonkdcbmmdhjgaaDoor
