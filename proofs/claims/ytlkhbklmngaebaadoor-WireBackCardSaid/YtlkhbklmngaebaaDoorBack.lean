/-
  WireBack: the walk.
-/
import Derived.Test.YtlkhbklmngaebaaDoorBackPure
import Derived.Test.YtlkhbklmngaebaaDoorScript
import Derived.Test.YtlkhbklmngaebaaDoorAlive
namespace Go.Proofs.YtlkhbklmngaebaaDoor
open Go.RowKit

theorem enter_back (args : Array Value) (w : World) : (callFunc 29 args).run Tryd.prog w = .ok (.enter 29 args) w := by kernel_rfl
theorem one_back (B g s : Nat) (E : Nat → Addr) (hg : B ≤ g) (w1 : World) (e1 : Nat) (l1 : List UInt8) (n1 e2 : Nat) (l2 : List UInt8) (hp : pNum 1 e1 l1 = (n1, e2, l2)) (hr : RdIs w1 g s (evOf E e1) l1) (he : ErrVars [0, 1] w1 B E) :
    Calls Tryd.prog 29 #[.pointer (some ⟨g, 0, none⟩)] w1 fun en w' => en = .returned (.int .u8 (n1 : Int)) ∧ RdIs w' g s (evOf E e2) l2 ∧ w1.grownBy w' (some g) := by
  have hsm : n1 < 256 := by have := pNum_small (e := e1) (l := l1); rw [hp] at this; exact this
  have hw : IntKind.u8.wrap (n1 : Int) = (n1 : Int) := by rw [IntKind.wrap_u8]; omega
  go_enter Tryd.func29, Tryd.ntmps29
  go_wp2_with fail
  refine (rnum_is w1 B g s E e1 l1 1 n1 e2 l2 hp hr he hg).mono ?_
  rintro en w2 ⟨rfl, hr2, k2⟩
  go_wp2_with fail
  go_ret
  exact ⟨rfl, hr2, k2⟩

theorem kinds (k : Int) : (k == 1) = true ∨ ((k == 1) = false ∧ (k == 2) = true) ∨ ((k == 1) = false ∧ (k == 2) = false ∧ (k == 3) = true) ∨ ((k == 1) = false ∧ (k == 2) = false ∧ (k == 3) = false ∧ (k == 4) = true) ∨
    ((k == 1) = false ∧ (k == 2) = false ∧ (k == 3) = false ∧ (k == 4) = false ∧ (k == 5) = true) ∨ ((k == 1) = false ∧ (k == 2) = false ∧ (k == 3) = false ∧ (k == 4) = false ∧ (k == 5) = false) := by
  cases (k == 1) <;> cases (k == 2) <;> cases (k == 3) <;> cases (k == 4) <;> cases (k == 5) <;> simp

/-- Where the writing is. -/
structure BState (w wr : World) (E : Nat → Addr) (g : Nat) (ops : List OpV) (F : Nat → Prop) (l : List UInt8) (k : Nat) : Prop where
  writer : WrIs wr F g (evOf E (firstErr (ops.take k))) l
  same : firstErr (ops.take k) = 0 → l = wants (ops.take k)
  low : ∀ b, F b → w.heap.size ≤ b ∧ b < wr.heap.size
  kept : Kept (fun _ => False) w wr
  len : l.length ≤ 410 * k
theorem BState.step {w wr wA w5 : World} {E : Nat → Addr} {g : Nat} {ops : List OpV} {F : Nat → Prop} {l l' : List UInt8} {k : Nat} {o : OpV}
    (st : BState w wr E g ops F l k) (htk : ops.take (k + 1) = ops.take k ++ [o]) (KA : Kept (fun _ => False) wr wA) (K5 : Kept F wA w5)
    (hw5 : WrIs w5 (upTo F wA.heap.size w5.heap.size) g (evOf E (firstErr (ops.take k ++ [o]))) l') (hs5 : firstErr (ops.take k ++ [o]) = 0 → l' = wants (ops.take k ++ [o])) (hl5 : l'.length ≤ 410 * (k + 1)) :
    BState w w5 E g ops (upTo F wA.heap.size w5.heap.size) l' (k + 1) := by
  have z5 := K5.size
  have zA := KA.size
  have s0 := st.kept.size
  refine ⟨by rw [htk]; exact hw5, by rw [htk]; exact hs5, ?_, ?_, hl5⟩
  · rintro b (h | ⟨h1, h2⟩)
    · have := st.low b h; omega
    · omega
  · exact (st.kept.follow KA (fun _ _ h => h)).follow K5 (fun b hb h => by have := st.low b h; omega)

set_option maxRecDepth 100000 in
set_option maxHeartbeats 2000000 in
theorem back_any (w : World) (A : Option Addr) (n c : Nat) (ops : List OpV) (E : Nat → Addr) (hn : ops.length = n) (ho : OpsAt w A ops) (he : ErrVars [0, 1, 2, 3, 9] w w.heap.size E) :
    Calls Tryd.prog 5 #[.slice A n c] w fun e w' => e = .returned (.bool true) ∧ Below w.heap.size w w' := by
  have Hn := Lib.hid hn
  cases hlong : longB ops
  · obtain ⟨hl1, hl2⟩ := not_long hlong
    have Hl2 := Lib.hid hl2
    have h40 : n ≤ 40 := by omega
    clear hl2 hl1 hn
    go_enter Tryd.func5, Tryd.ntmps5
    go_wp2_with fail
    refine (alive_any _).mono ?_
    rintro e w1 ⟨rfl, k1⟩
    have K1 : Kept (fun _ => False) w w1 := Kept.of_grown k1 fun _ e => by cases e
    go_wp2_with fail
    refine (long_any w1 A n c ops Hn.out (ho.kept K1)).mono ?_
    rw [hlong]
    rintro e w2 ⟨rfl, k2⟩
    have K2 : Kept (fun _ => False) w w2 := K1.follow (Kept.of_grown (F := fun _ => False) k2 fun _ e => by cases e) fun _ _ h => h
    go_wp2_with fail
    refine (new_ok _).mono ?_
    rintro e w3 ⟨rfl, rfl⟩
    have st0 : BState w (w2.alloc (.cells #[.nilIface, .slice none 0 0] 64)) E w2.heap.size ops (fun b => b = w2.heap.size) [] 0 :=
      ⟨WrIs.new w2 (F := fun b => b = w2.heap.size) rfl, fun _ => rfl, by rintro b rfl; have := K2.size; simp; omega, K2.alloc _, by simp⟩
    have z2 := K2.size
    go_wp2_with fail
    generalize w2.alloc (.cells #[.nilIface, .slice none 0 0] 64) = w4 at *
    generalize w2.heap.size = g at *
    go_loopw [19] (fun i wr => ∃ k F l, k ≤ n ∧ i = .int .i64 (k : Int) ∧ BState w wr E g ops F l k) (fun i _ => n - (intOf i).toNat)
    case atStart => exact ⟨0, _, _, Nat.zero_le _, rfl, st0⟩
    case round =>
      obtain ⟨k, F, l, hk, rfl, st⟩ := hrel
      have he1 := he.kept st.kept (fun _ h => h.elim)
      by_cases hlt : k < n
      · have hb : decide ((k : Int) < (n : Int)) = true := by simp; omega
        have hko : k < ops.length := by have := Hn.out; omega
        obtain ⟨b, off, rfl, hc⟩ := ho (by intro e; rw [e] at hko; simp at hko)
        obtain ⟨x0, x1, x2, x3, hmx, Ab, cb, x4, hbw, _⟩ := hc k hko
        have c0 := st.kept.cell x0 (fun h => h)
        have c1 := st.kept.cell x1 (fun h => h)
        have c2 := st.kept.cell x2 (fun h => h)
        have c3 := st.kept.cell x3 (fun h => h)
        have c4' := st.kept.cell x4 (fun h => h)
        have hbx := hbw.kept' st.kept (fun _ _ _ h => h)
        clear x0 x1 x2 x3 x4
        have hxl := Hl2.out ops[k] (List.getElem_mem hko)
        have htk : ops.take (k + 1) = ops.take k ++ [ops[k]] := List.take_succ_eq_append_getElem hko
        have Htk := Lib.hid htk
        clear hc htk
        generalize ops[k] = o at *
        go_wp2_with fail
        have KA := (Kept.refl (fun _ => False) wr).alloc (.cells #[.int .i64 o.kind, .int .i64 o.n, .int .i64 o.width, .int .i64 o.most, .slice Ab o.bytes.length cb] 29)
        have hwA := st.writer.kept KA (fun _ _ h => h)
        have heA := he1.kept KA (fun _ h => h.elim)
        have hbA := hbx.kept' KA (fun _ _ _ h => h)
        have hnF : ∀ ad, Ab = some ad → o.bytes ≠ [] → ¬ F ad.block := fun ad e hne hF => by
          have h1 := hbw.lt ad e hne
          have h2 := st.low _ hF
          omega
        generalize wr.alloc (.cells #[.int .i64 o.kind, .int .i64 o.n, .int .i64 o.width, .int .i64 o.most, .slice Ab o.bytes.length cb] 29) = wA at *
        refine (write_step wA F _ g E l (ops.take k) o Ab cb k hwA st.same (heA.sub (by decide)) hbA hnF st.len (by omega) hxl).mono ?_
        rintro e w5 ⟨rfl, ⟨l', hw5, hs5, hl5⟩, K5⟩
        have fin := st.step Htk.out KA K5 hw5 hs5 hl5
        have Fin := Lib.hid fin
        clear fin hs5 hw5 hl5 hnF
        go_wp2_with fail
        go_roundw
        case rel => exact ⟨k + 1, _, l', by omega, by go_num, Fin.out⟩
        case measure => simp [intOf]; omega
      · obtain rfl : k = n := by omega
        have hb : decide ((k : Int) < (k : Int)) = false := by simp
        have hall : ops.take k = ops := List.take_of_length_le (by have := Hn.out; omega)
        have hw := st.writer
        have hsm := st.same
        rw [hall] at hw hsm
        have KK := st.kept
        have hlen := st.len
        clear st hall
        cases hf : firstErr ops with
        | succ j =>
          rw [hf] at hw
          clear hf hsm
          go_wp2_with fail
          refine (done_err _ _ _ _ _ _ hw).mono ?_
          rintro e w9 ⟨rfl, k9⟩
          go_wp2_with fail
          go_ret
          exact ⟨rfl, (KK.follow (Kept.of_grown (F := fun _ => False) k9 fun _ e => by cases e) (fun _ _ h => h)).below (Nat.le_refl _) (fun _ h => h.elim)⟩
        | zero =>
          rw [hf] at hw
          have hlw := hsm hf
          have Hz := Lib.hid (firstErr_zero ops hf)
          clear hf hsm
          subst hlw
          go_wp2_with fail
          refine (done_ok _ _ _ _ hw (by omega)).mono ?_
          rintro e w9 ⟨A9, c9, rfl, hown9, k9⟩
          have K9 := KK.follow (Kept.of_grown (F := fun _ => False) k9 fun _ e => by cases e) (fun _ _ h => h)
          go_wp2_with fail
          refine (reader_new w9 A9 _ c9 (wants ops) rfl (own_bytesAt hown9) (by omega)).mono ?_
          rintro e w10 ⟨g2, s2, rfl, hr10, hg1, hg2, hs1, hs2, k10⟩
          have K10 := K9.follow (Kept.of_grown (F := fun _ => False) k10 fun _ e => by cases e) (fun _ _ h => h)
          have z9 := K9.size
          have hlw : (wants ops).length ≤ 410 * k := hlen
          clear hown9 hw hlen k9 k10 KK he1
          go_wp2_with fail
          go_loopw [41] (fun i wr => ∃ m, m ≤ k ∧ i = .int .i64 (m : Int) ∧ RdIs wr g2 s2 .nilIface (wants (ops.drop m)) ∧ Kept (fun _ => False) w wr ∧ s2 < wr.heap.size) (fun i _ => k - (intOf i).toNat)
          case atStart => exact ⟨0, Nat.zero_le _, rfl, by simpa using hr10, K10, hs2⟩
          case round =>
            obtain ⟨m, hm, rfl, hr, K, hsz⟩ := hrel
            by_cases hlt : m < k
            · have hb : decide ((m : Int) < (k : Int)) = true := by simp; omega
              have hmo : m < ops.length := by have := Hn.out; omega
              obtain ⟨b, off, rfl, hc⟩ := ho (by intro e; rw [e] at hmo; simp at hmo)
              obtain ⟨x0, x1, x2, x3, hmx, Ab, cb, x4, hbw, _⟩ := hc m hmo
              have c0 := K.cell x0 (fun h => h)
              have c1 := K.cell x1 (fun h => h)
              have c2 := K.cell x2 (fun h => h)
              have c3 := K.cell x3 (fun h => h)
              have c4' := K.cell x4 (fun h => h)
              have hbx := hbw.kept' K (fun _ _ _ h => h)
              have hblt := hbw.lt
              have hz := Hz.out ops[m] (List.getElem_mem hmo)
              have hd := wants_drop ops m hmo
              rw [hd] at hr
              have hlr : (wBytes ops[m] ++ wants (ops.drop (m + 1))).length ≤ 410 * k := by
                rw [← hd]
                have hle : (wants (ops.drop m)).length ≤ (wants ops).length := by
                  have h2 : wants ops = wants (ops.take m) ++ wants (ops.drop m) := by unfold wants; rw [← List.flatMap_append, List.take_append_drop]
                  rw [h2, List.length_append]; omega
                omega
              obtain ⟨rest, hrest⟩ : ∃ rest, wants (ops.drop (m + 1)) = rest := ⟨_, rfl⟩
              rw [hrest] at hr hlr
              have Hd := Lib.hid hrest
              have hgB : w.heap.size ≤ g2 := by omega
              clear x0 x1 x2 x3 x4 hc hd hrest hbw
              generalize ops[m] = o at *
              obtain ⟨kind, nn, width, most, x⟩ := o
              simp only at c0 c1 c2 c3 c4' hbx hmx hblt
              have hbox := Blk.new wr 29 #[.int .i64 kind, .int .i64 nn, .int .i64 width, .int .i64 most, .slice Ab x.length cb]
              have KA := (Kept.refl (fun _ => False) wr).alloc (.cells #[.int .i64 kind, .int .i64 nn, .int .i64 width, .int .i64 most, .slice Ab x.length cb] 29)
              have d0 : (wr.alloc (.cells #[.int .i64 kind, .int .i64 nn, .int .i64 width, .int .i64 most, .slice Ab x.length cb] 29)).cell? ⟨wr.heap.size, 0, none⟩ = some (.int .i64 kind) := hbox.cell 0
              have d1 : (wr.alloc (.cells #[.int .i64 kind, .int .i64 nn, .int .i64 width, .int .i64 most, .slice Ab x.length cb] 29)).cell? ⟨wr.heap.size, 1, none⟩ = some (.int .i64 nn) := hbox.cell 1
              have d2 : (wr.alloc (.cells #[.int .i64 kind, .int .i64 nn, .int .i64 width, .int .i64 most, .slice Ab x.length cb] 29)).cell? ⟨wr.heap.size, 2, none⟩ = some (.int .i64 width) := hbox.cell 2
              have d3 : (wr.alloc (.cells #[.int .i64 kind, .int .i64 nn, .int .i64 width, .int .i64 most, .slice Ab x.length cb] 29)).cell? ⟨wr.heap.size, 3, none⟩ = some (.int .i64 most) := hbox.cell 3
              have d4 : (wr.alloc (.cells #[.int .i64 kind, .int .i64 nn, .int .i64 width, .int .i64 most, .slice Ab x.length cb] 29)).cell? ⟨wr.heap.size, 4, none⟩ = some (.slice Ab x.length cb) := hbox.cell 4
              have hrA : RdIs (wr.alloc (.cells #[.int .i64 kind, .int .i64 nn, .int .i64 width, .int .i64 most, .slice Ab x.length cb] 29)) g2 s2 (evOf E 0) (wBytes ⟨kind, nn, width, most, x⟩ ++ rest) := hr.kept KA (fun h => h) (fun h => h)
              have heA := (he.kept K (fun _ h => h.elim)).kept KA (fun _ h => h.elim)
              have hbA := hbx.kept' KA (fun _ _ _ h => h)
              have boxed : ∀ w6, (wr.alloc (.cells #[.int .i64 kind, .int .i64 nn, .int .i64 width, .int .i64 most, .slice Ab x.length cb] 29)).drew.grownBy w6 (some g2) → Blk w6 wr.heap.size 29 #[.int .i64 kind, .int .i64 nn, .int .i64 width, .int .i64 most, .slice Ab x.length cb] := fun w6 k6 =>
                hbox.drew.kept (Kept.of_grown (F := fun j => j = g2) k6 fun j e => by injection e with e; exact e.symm) (fun e => by have : g2 < wr.heap.size := by { obtain ⟨_, _, hq, _⟩ := hr; exact hq.lt }; omega)
              have fin : ∀ w6, (wr.alloc (.cells #[.int .i64 kind, .int .i64 nn, .int .i64 width, .int .i64 most, .slice Ab x.length cb] 29)).drew.grownBy w6 (some g2) → Kept (fun _ => False) w w6 ∧ s2 < w6.heap.size := fun w6 k6 =>
                ⟨((K.follow KA (fun _ _ h => h)).drew).follow (Kept.of_grown (F := fun j => j = g2) k6 fun j e => by injection e with e; exact e.symm) (fun j hj e => by omega), by have h1 := KA.size; have h2 : (wr.alloc (.cells #[.int .i64 kind, .int .i64 nn, .int .i64 width, .int .i64 most, .slice Ab x.length cb] 29)).heap.size ≤ w6.heap.size := k6.size; omega⟩
              have bytes6 : ∀ w6, (wr.alloc (.cells #[.int .i64 kind, .int .i64 nn, .int .i64 width, .int .i64 most, .slice Ab x.length cb] 29)).drew.grownBy w6 (some g2) → BytesAt w6 Ab x := fun w6 k6 =>
                hbA.kept' (F := fun j => j = g2) ((Kept.refl (fun j => j = g2) (wr.alloc (.cells #[.int .i64 kind, .int .i64 nn, .int .i64 width, .int .i64 most, .slice Ab x.length cb] 29))).drew.follow (Kept.of_grown (F := fun j => j = g2) k6 fun j e => by injection e with e; exact e.symm) (fun _ _ h => h)) (fun ad e hne h => by have := hblt ad e hne; omega)
              have Boxed := Lib.hid boxed
              have Bytes6 := Lib.hid bytes6
              have HrA := Lib.hid hrA
              have HeA := Lib.hid (heA.sub (T := [0, 1, 3]) (by decide))
              have HbA := Lib.hid hbA
              have Hblt := Lib.hid hblt
              clear boxed bytes6 hrA heA hbA hblt hr
              rcases kinds kind with t1 | ⟨t1, t2⟩ | ⟨t1, t2, t3⟩ | ⟨t1, t2, t3, t4⟩ | ⟨t1, t2, t3, t4, t5⟩ | ⟨t1, t2, t3, t4, t5⟩
              · have hbad : badNum nn width = false := by
                  cases h : badNum nn width
                  · rfl
                  · simp [wErr, t1, h] at hz
                have hwb : wBytes ⟨kind, nn, width, most, x⟩ = be width.toNat nn.toNat := by simp [wBytes, t1, hbad]
                obtain ⟨mm, kk, rfl, rfl, h1, h8, hm8⟩ := goodNum hbad
                rw [hwb] at HrA
                have Hp := Lib.hid (pNum_be kk mm rest h1 h8 hm8 (by omega))
                have q1 : ((mm : Int) != (mm : Int)) = false := by simp
                clear hwb hbad hz hmx
                go_wp2_with fail
                go_region_with (go_at_call 24; refine (rnum_is _ w.heap.size g2 s2 E 0 (be kk mm ++ rest) kk mm 0 rest Hp.out HrA.out.drew ((HeA.out.sub (by decide)).kept (Kept.refl (fun _ => False) _).drew (fun _ h => h.elim)) hgB).mono ?_; rintro en w6 ⟨rfl, hr6, k6⟩; have d1' : w6.cell? ⟨wr.heap.size, 1, none⟩ = some (.int .i64 (mm : Int)) := (Boxed.out w6 k6).cell 1)
                all_goals
                  have Hr6 := Lib.hid hr6
                  have Fin := Lib.hid (fin w6 k6)
                  clear hr6
                  go_wp2_with fail
                  go_roundw
                  case rel => exact ⟨m + 1, by omega, by go_num, by rw [Hd.out]; exact Hr6.out, Fin.out.1, Fin.out.2⟩
                  case measure => simp [intOf]; omega
              · have hwb : wBytes ⟨kind, nn, width, most, x⟩ = [if (bits BinOp.and IntKind.i64 nn 1 == 1) then 1 else 0] := by simp [wBytes, t1, t2]
                rw [hwb] at HrA
                have Hp := Lib.hid (pFlag_bit (bits BinOp.and IntKind.i64 nn 1 == 1) rest)
                have q1 : ((bits BinOp.and IntKind.i64 nn 1 == 1) != (bits BinOp.and IntKind.i64 nn 1 == 1)) = false := by simp
                clear hwb hz hmx
                go_wp2_with fail
                go_region_with (go_at_call 25; refine (rflag_is _ w.heap.size g2 s2 E 0 _ _ 0 rest Hp.out HrA.out.drew (HeA.out.kept (Kept.refl (fun _ => False) _).drew (fun _ h => h.elim)) hgB).mono ?_; rintro en w6 ⟨rfl, hr6, k6⟩; have d1' : w6.cell? ⟨wr.heap.size, 1, none⟩ = some (.int .i64 nn) := (Boxed.out w6 k6).cell 1)
                all_goals
                  have Hr6 := Lib.hid hr6
                  have Fin := Lib.hid (fin w6 k6)
                  clear hr6
                  go_wp2_with fail
                  go_roundw
                  case rel => exact ⟨m + 1, by omega, by go_num, by rw [Hd.out]; exact Hr6.out, Fin.out.1, Fin.out.2⟩
                  case measure => simp [intOf]; omega
              · have hwb : wBytes ⟨kind, nn, width, most, x⟩ = x := by simp [wBytes, t1, t2, t3]
                rw [hwb] at HrA
                have Hp := Lib.hid (pFixed_app x rest)
                have s0 : (convert 27 9 (.slice Ab x.length cb)).run Tryd.prog (wr.alloc (.cells #[.int .i64 kind, .int .i64 nn, .int .i64 width, .int .i64 most, .slice Ab x.length cb] 29)).drew = .ok (.string ⟨x.toArray⟩) (wr.alloc (.cells #[.int .i64 kind, .int .i64 nn, .int .i64 width, .int .i64 most, .slice Ab x.length cb] 29)).drew := toString_any (HbA.out.kept' (Kept.refl (fun _ => False) _).drew (fun _ _ _ h => h)) rfl
                have hl6 : (x ++ rest).length ≤ 140737488355328 := by rw [hwb] at hlr; omega
                clear hwb hz hmx hlr
                go_wp2_with fail
                go_region_with (go_at_call 26; refine (rfixed_is _ w.heap.size g2 s2 E 0 _ _ x 0 rest Hp.out HrA.out.drew ((HeA.out.sub (by decide)).kept (Kept.refl (fun _ => False) _).drew (fun _ h => h.elim)) hl6).mono ?_; rintro en w6 ⟨A6, c6, rfl, hx6, _, hr6, k6⟩; have d4' : w6.cell? ⟨wr.heap.size, 4, none⟩ = some (.slice Ab x.length cb) := (Boxed.out w6 k6).cell 4; have s1 := toString_any (Bytes6.out w6 k6) (n := x.length) (c := cb) rfl; have s2 := toString_any hx6 (n := x.length) (c := c6) rfl)
                all_goals
                  have Hr6 := Lib.hid hr6
                  have Fin := Lib.hid (fin w6 k6)
                  clear hr6
                  go_wp2_with fail
                  go_roundw
                  case rel => exact ⟨m + 1, by omega, by go_num, by rw [Hd.out]; exact Hr6.out, Fin.out.1, Fin.out.2⟩
                  case measure => simp [intOf]; omega
              · have hbad : ¬ (most < (x.length : Int) ∨ 65535 < x.length) := by
                  intro h
                  simp [wErr, t1, t2, t3, t4, h] at hz
                have hwb : wBytes ⟨kind, nn, width, most, x⟩ = be 2 x.length ++ x := by simp [wBytes, t1, t2, t3, t4, hbad]
                rw [hwb, List.append_assoc] at HrA
                have Hp := Lib.hid (pBytes_app x rest most (fun h => hbad (.inl h)) (by omega))
                have s0 : (convert 27 9 (.slice Ab x.length cb)).run Tryd.prog (wr.alloc (.cells #[.int .i64 kind, .int .i64 nn, .int .i64 width, .int .i64 most, .slice Ab x.length cb] 29)).drew = .ok (.string ⟨x.toArray⟩) (wr.alloc (.cells #[.int .i64 kind, .int .i64 nn, .int .i64 width, .int .i64 most, .slice Ab x.length cb] 29)).drew := toString_any (HbA.out.kept' (Kept.refl (fun _ => False) _).drew (fun _ _ _ h => h)) rfl
                have hl6 : (be 2 x.length ++ (x ++ rest)).length ≤ 140737488355328 := by rw [hwb, List.append_assoc] at hlr; omega
                clear hwb hz hmx hlr hbad
                go_wp2_with fail
                go_region_with (go_at_call 27; refine (rbytes_is _ w.heap.size g2 s2 E 0 _ _ x 0 rest Hp.out HrA.out.drew ((HeA.out.sub (by decide)).kept (Kept.refl (fun _ => False) _).drew (fun _ h => h.elim)) hgB hl6).mono ?_; rintro en w6 ⟨A6, c6, rfl, hx6, _, hr6, k6⟩; have d4' : w6.cell? ⟨wr.heap.size, 4, none⟩ = some (.slice Ab x.length cb) := (Boxed.out w6 k6).cell 4; have s1 := toString_any (Bytes6.out w6 k6) (n := x.length) (c := cb) rfl; have s2 := toString_any hx6 (n := x.length) (c := c6) rfl)
                all_goals
                  have Hr6 := Lib.hid hr6
                  have Fin := Lib.hid (fin w6 k6)
                  clear hr6
                  go_wp2_with fail
                  go_roundw
                  case rel => exact ⟨m + 1, by omega, by go_num, by rw [Hd.out]; exact Hr6.out, Fin.out.1, Fin.out.2⟩
                  case measure => simp [intOf]; omega
              · have hbad : ¬ (most < (x.length : Int) ∨ 255 < x.length) := by
                  intro h
                  simp [wErr, t1, t2, t3, t4, t5, h] at hz
                have hwb : wBytes ⟨kind, nn, width, most, x⟩ = be 1 x.length ++ x := by simp [wBytes, t1, t2, t3, t4, t5, hbad]
                rw [hwb, List.append_assoc] at HrA
                have Hp := Lib.hid (pTake_app x rest most (fun h => hbad (.inl h)) (by omega))
                have hsA : s2 < (wr.alloc (.cells #[.int .i64 kind, .int .i64 nn, .int .i64 width, .int .i64 most, .slice Ab x.length cb] 29)).heap.size := by have := KA.size; omega
                have k0 : (wr.alloc (.cells #[.int .i64 kind, .int .i64 nn, .int .i64 width, .int .i64 most, .slice Ab x.length cb] 29)).drew.grownBy (wr.alloc (.cells #[.int .i64 kind, .int .i64 nn, .int .i64 width, .int .i64 most, .slice Ab x.length cb] 29)) (some g2) := ⟨rfl, rfl, rfl, Nat.le_refl _, fun _ _ _ => rfl⟩
                clear hwb hz hmx hlr hbad
                go_wp2_with fail
                refine (take_u8 _ w.heap.size g2 s2 E _ enter_back (one_back w.heap.size g2 s2 E hgB) most 0 _ _ 0 rest Hp.out hsA hgB HrA.out (HeA.out.sub (by decide))).mono ?_
                rintro en w6 ⟨A6, c6, rfl, hown6, _, hr6, k6'⟩
                rw [cells_bytes, List.length_map] at hown6
                have k6 := grown_trans k0 k6'
                have d4' : w6.cell? ⟨wr.heap.size, 4, none⟩ = some (.slice Ab x.length cb) := (Boxed.out w6 k6).cell 4
                have s1 := toString_any (Bytes6.out w6 k6) (n := x.length) (c := cb) rfl
                have s2 := toString_any (own_bytesAt hown6) (n := x.length) (c := c6) rfl
                rw [List.length_map]
                have Hr6 := Lib.hid hr6
                have Fin := Lib.hid (fin w6 k6)
                clear hr6
                go_wp2_with fail
                go_roundw
                case rel => exact ⟨m + 1, by omega, by go_num, by rw [Hd.out]; exact Hr6.out, Fin.out.1, Fin.out.2⟩
                case measure => simp [intOf]; omega
              · have hwb : wBytes ⟨kind, nn, width, most, x⟩ = [] := by simp [wBytes, t1, t2, t3, t4, t5]
                rw [hwb] at HrA
                have Fin : Hid (Kept (fun _ => False) w (wr.alloc (.cells #[.int .i64 kind, .int .i64 nn, .int .i64 width, .int .i64 most, .slice Ab x.length cb] 29)) ∧ s2 < (wr.alloc (.cells #[.int .i64 kind, .int .i64 nn, .int .i64 width, .int .i64 most, .slice Ab x.length cb] 29)).heap.size) := ⟨K.follow KA (fun _ _ h => h), by have := KA.size; omega⟩
                clear hwb hz hmx hlr
                go_wp2_with fail
                go_roundw
                case rel => exact ⟨m + 1, by omega, by go_num, by rw [Hd.out]; exact HrA.out, Fin.out.1, Fin.out.2⟩
                case measure => simp [intOf]; omega
            · obtain rfl : m = k := by omega
              have hb : decide ((m : Int) < (m : Int)) = false := by simp
              have hall : ops.drop m = [] := List.drop_eq_nil_of_le (by have := Hn.out; omega)
              rw [hall] at hr
              clear hall
              go_wp2_with fail
              refine (rdone_is wr w.heap.size g2 s2 E 0 [] 0 rfl hr ((he.kept K (fun _ h => h.elim)).sub (by decide))).mono ?_
              rintro en w11 ⟨rfl, rfl⟩
              have hnil : evOf E 0 = .nilIface := rfl
              rw [hnil]
              go_wp2_with fail
              go_ret
              exact ⟨rfl, K.below (Nat.le_refl _) (fun _ h => h.elim)⟩
  · clear hn
    go_enter Tryd.func5, Tryd.ntmps5
    go_wp2_with fail
    refine (alive_any _).mono ?_
    rintro e w1 ⟨rfl, k1⟩
    have K1 : Kept (fun _ => False) w w1 := Kept.of_grown k1 fun _ e => by cases e
    go_wp2_with fail
    refine (long_any w1 A n c ops Hn.out (ho.kept K1)).mono ?_
    rw [hlong]
    rintro e w2 ⟨rfl, k2⟩
    go_wp2_with fail
    go_ret
    exact ⟨rfl, below_grown (grown_trans k1 k2) (Nat.le_refl _) (fun _ e => by cases e)⟩
end Go.Proofs.YtlkhbklmngaebaaDoor
