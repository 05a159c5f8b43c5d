/-
  WireWrites: the walk.
-/
import Derived.Test.YtmmjpkijnecmcaaDoorScript
import Derived.Test.YtmmjpkijnecmcaaDoorWritten2
import Derived.Test.YtmmjpkijnecmcaaDoorAlive
namespace Go.Proofs.YtmmjpkijnecmcaaDoor
open Go.RowKit

/-- The first error of a script, and all bytes that it is to make. -/
def firstErr : List OpV → Nat
  | [] => 0
  | o :: r => if wErr o = 0 then firstErr r else wErr o
def wants (ops : List OpV) : List UInt8 := ops.flatMap wBytes
theorem firstErr_snoc (l : List OpV) (o : OpV) : firstErr (l ++ [o]) = if firstErr l = 0 then wErr o else firstErr l := by
  induction l with
  | nil => simp [firstErr]; omega
  | cons a r ih =>
    by_cases h : wErr a = 0
    · simp [firstErr, h, ih]
    · simp [firstErr, h]
theorem wants_snoc (l : List OpV) (o : OpV) : wants (l ++ [o]) = wants l ++ wBytes o := by simp [wants]
theorem wErr_le (o : OpV) : wErr o ≤ 18 := by
  unfold wErr
  repeat' split
  all_goals omega
theorem firstErr_le (l : List OpV) : firstErr l ≤ 18 := by
  induction l with
  | nil => simp [firstErr]
  | cons a r ih =>
    simp only [firstErr]
    split
    · exact ih
    · exact wErr_le a
theorem wBytes_len (o : OpV) (h : o.bytes.length ≤ 400) : (wBytes o).length ≤ 410 := by
  unfold wBytes
  repeat' split
  all_goals (try simp [be_length])
  all_goals (try omega)
  rename_i h1 h2
  obtain ⟨m, k, _, e, _, h8, _⟩ := goodNum (n := o.n) (width := o.width) (by simpa using h2)
  rw [e]; omega
theorem not_long {ops : List OpV} (h : longB ops = false) : ops.length ≤ 40 ∧ ∀ o ∈ ops, o.bytes.length ≤ 400 := by
  unfold longB at h
  rw [Bool.or_eq_false_iff] at h
  refine ⟨by simpa using h.1, fun o ho => ?_⟩
  have := List.any_eq_false.1 h.2 o ho
  simpa using this

/-- The Writer behind k ops, and the bytes wanted so far. -/
structure WState (w wr : World) (E : Nat → Addr) (g : Nat) (ops : List OpV) (A4 : Option Addr) (c4 : Nat) (F : Nat → Prop) (l : List UInt8) (k : Nat) : Prop where
  own : wr.ownsRow 0 5 1 (.slice A4 (wants (ops.take k)).length c4) (wants (ops.take k)).length (Lib.byteCells (wants (ops.take k)))
  writer : WrIs wr F g (evOf E (firstErr (ops.take k))) l
  same : firstErr (ops.take k) = 0 → l = wants (ops.take k)
  low : ∀ b, F b → w.heap.size ≤ b ∧ b < wr.heap.size
  apart : ∀ ad, A4 = some ad → ¬ F ad.block ∧ w.heap.size ≤ ad.block
  kept : Kept (fun _ => False) w wr
  len : l.length ≤ 410 * k
  wlen : (wants (ops.take k)).length ≤ 410 * k

theorem write_step (W : World) (F : Nat → Prop) (B g : Nat) (E : Nat → Addr) (l : List UInt8) (pre : List OpV) (o : OpV) (A : Option Addr) (c k : Nat)
    (hw : WrIs W F g (evOf E (firstErr pre)) l) (hs : firstErr pre = 0 → l = wants pre) (he : ErrVars [0, 9] W B E) (hx : BytesAt W A o.bytes) (hA : ∀ ad, A = some ad → o.bytes ≠ [] → ¬ F ad.block)
    (hl : l.length ≤ 410 * k) (hk : k ≤ 40) (hxl : o.bytes.length ≤ 400) :
    Calls Tryd.prog 13 #[.pointer (some ⟨g, 0, none⟩), opVal o A c] W fun e w' => e = .returned (.tuple #[]) ∧ (∃ l', WrIs w' (upTo F W.heap.size w'.heap.size) g (evOf E (firstErr (pre ++ [o]))) l' ∧ (firstErr (pre ++ [o]) = 0 → l' = wants (pre ++ [o])) ∧ l'.length ≤ 410 * (k + 1)) ∧ Kept F W w' := by
  rw [firstErr_snoc, wants_snoc]
  cases hf : firstErr pre with
  | zero =>
    rw [hf] at hw
    simp only [if_true]
    refine (write_op_ok W F B g E l o A c hw he hx hA (by omega) (by omega)).mono fun e w' ⟨h1, h2, h3⟩ => ⟨h1, ⟨if wErr o = 0 then l ++ wBytes o else l, ?_, ?_, ?_⟩, h3⟩
    · rw [wOp_eq] at h2; exact h2
    · intro h0; rw [if_pos h0, hs hf]
    · have := wBytes_len o hxl
      split
      · simp; omega
      · omega
  | succ j =>
    rw [hf] at hw
    have hne : ¬ (j + 1 = 0) := by omega
    simp only [if_neg hne]
    refine (write_op_err W F B g _ _ l _ _ o A c hw (he.var 0 (by simp)) (he.var 9 (by simp)) hx).mono fun e w' ⟨h1, h2⟩ => ⟨h1, ⟨l, (hw.grown h2).mono fun _ _ h => .inl h, fun h => absurd h hne, by omega⟩, Kept.of_grown h2 fun _ e => by cases e⟩

theorem WState.step {w wr wA w5 w6 w7 : World} {E : Nat → Addr} {g : Nat} {ops : List OpV} {A4 A7 : Option Addr} {c4 c7 : Nat} {F : Nat → Prop} {l l' : List UInt8} {k : Nat} {o : OpV}
    (st : WState w wr E g ops A4 c4 F l k) (hz : w.heap.size ≤ wr.heap.size) (htk : ops.take (k + 1) = ops.take k ++ [o]) (KA : Kept (fun _ => False) wr wA) (zA : wr.heap.size ≤ wA.heap.size) (K5 : Kept F wA w5)
    (hw5 : WrIs w5 (upTo F wA.heap.size w5.heap.size) g (evOf E (firstErr (ops.take k ++ [o]))) l') (hs5 : firstErr (ops.take k ++ [o]) = 0 → l' = wants (ops.take k ++ [o])) (hl5 : l'.length ≤ 410 * (k + 1))
    (k6 : w5.grownBy w6 none) (hxl : o.bytes.length ≤ 400)
    (hown : w7.ownsRow 0 5 1 (.slice A7 ((wants (ops.take k)).length + (wBytes o).length) c7) ((wants (ops.take k)).length + (wBytes o).length) (Lib.byteCells (wants (ops.take k)) ++ Lib.byteCells (wBytes o)))
    (k7 : w6.grownBy w7 (Value.slice A4 (wants (ops.take k)).length c4).ownBlock)
    (hat : (Value.slice A7 ((wants (ops.take k)).length + (wBytes o).length) c7).ownBlock = (Value.slice A4 (wants (ops.take k)).length c4).ownBlock ∨ (Value.slice A7 ((wants (ops.take k)).length + (wBytes o).length) c7).ownBlock = some w6.heap.size) :
    WState w w7 E g ops A7 c7 (upTo F wA.heap.size w5.heap.size) l' (k + 1) := by
  have z5 := K5.size
  have z6 := k6.size
  have z7 := k7.size
  have own4 : ∀ b, (Value.slice A4 (wants (ops.take k)).length c4).ownBlock = some b → ¬ F b ∧ w.heap.size ≤ b ∧ b < wr.heap.size := fun b hb => by
    rcases A4 with _ | ad
    · simp [Value.ownBlock] at hb
    · have e : ad.block = b := by simpa [Value.ownBlock] using hb
      subst e
      exact ⟨(st.apart ad rfl).1, (st.apart ad rfl).2, (st.own.lt ad.block rfl).2⟩
  have hlen : wants (ops.take (k + 1)) = wants (ops.take k) ++ wBytes o := by rw [htk, wants_snoc]
  have hwb := wBytes_len o hxl
  have hwl := st.wlen
  refine ⟨?_, ?_, ?_, ?_, ?_, ?_, hl5, ?_⟩
  · rw [hlen, List.length_append, Lib.byteCells_append]; exact hown
  · rw [htk]
    refine (hw5.grown k6).kept (Kept.of_grown (F := fun b => ¬ F b ∧ w.heap.size ≤ b ∧ b < wr.heap.size) k7 fun b hb => own4 b hb) ?_
    rintro b (h | ⟨h1, _⟩) ⟨h2, _, h3⟩
    · exact h2 h
    · omega
  · rw [htk]; exact hs5
  · rintro b (h | ⟨h1, h2⟩)
    · have := st.low b h; omega
    · omega
  · rintro ad rfl
    have hlt := (hown.lt ad.block rfl).2
    rcases hat with h | h
    · have h' := own4 ad.block (h.symm.trans rfl)
      refine ⟨?_, h'.2.1⟩
      rintro (h1 | ⟨h1, _⟩)
      · exact h'.1 h1
      · omega
    · have e : ad.block = w6.heap.size := by simpa [Value.ownBlock] using h
      refine ⟨?_, by omega⟩
      rintro (h1 | ⟨_, h1⟩)
      · have := st.low _ h1; omega
      · omega
  · have s0 := st.kept.size
    have q1 : Kept (fun _ => False) w wA := st.kept.follow KA (fun _ _ h => h)
    have q2 : Kept (fun _ => False) w w5 := q1.follow K5 (fun b hb h => by have := st.low b h; omega)
    have q3 : Kept (fun _ => False) w w6 := q2.follow (Kept.of_grown (F := fun _ => False) k6 fun _ e => by cases e) (fun _ _ h => h)
    exact q3.follow (Kept.of_grown (F := fun b => w.heap.size ≤ b) k7 fun b hb => (own4 b hb).2.1) (fun b hb h => by omega)
  · rw [hlen, List.length_append]; omega

set_option maxRecDepth 100000 in
set_option maxHeartbeats 2000000 in
theorem writes_any (w : World) (A : Option Addr) (n c : Nat) (ops : List OpV) (E : Nat → Addr) (hn : ops.length = n) (ho : OpsAt w A ops) (he : ErrEnv w w.heap.size E) :
    Calls Tryd.prog 3 #[.slice A n c] w fun e w' => e = .returned (.bool true) ∧ Below w.heap.size w w' := by
  have Hn := Lib.hid hn
  cases hlong : longB ops
  · obtain ⟨hl1, hl2⟩ := not_long hlong
    have Hl2 := Lib.hid hl2
    have h40 : n ≤ 40 := by omega
    obtain ⟨i0, hi, hz0, hz1, hz2⟩ := info_parts u8_info
    clear hl2 hl1 hn
    go_enter Tryd.func3, Tryd.ntmps3
    go_wp2_with fail
    refine (alive_any _).mono ?_
    rintro e w1 ⟨rfl, k1⟩
    have K1 : Kept (fun _ => False) w w1 := Kept.of_grown k1 fun _ e => by cases e
    go_wp2_with fail
    refine (long_any w1 A n c ops Hn.out (ho.kept K1)).mono ?_
    rw [hlong]
    rintro e w2 ⟨rfl, k2⟩
    have K2 : Kept (fun _ => False) w w2 := K1.follow (Kept.of_grown (F := fun _ => False) k2 fun _ e => by cases e) fun _ _ h => h
    go_wp2_with fail
    refine (new_ok _).mono ?_
    rintro e w3 ⟨rfl, rfl⟩
    go_wp2_with fail
    have st0 : WState w ((w2.alloc (.cells #[.nilIface, .slice none 0 0] 64)).alloc (.cells #[] 5)) E w2.heap.size ops (some ⟨w2.heap.size + 1, 0, none⟩) 0 (fun b => b = w2.heap.size) [] 0 := by
      have z2 := K2.size
      have zz : (w2.alloc (.cells #[.nilIface, .slice none 0 0] 64)).heap.size = w2.heap.size + 1 := by simp
      refine ⟨?_, ?_, fun _ => rfl, ?_, ?_, (K2.alloc _).alloc _, by simp, by simp [wants]⟩
      · have := World.ownsRow_made (base := 0) (e := 5) (size := 1) (w2.alloc (.cells #[.nilIface, .slice none 0 0] 64)) #[] 0 (Nat.zero_le _) (Nat.zero_le _) rfl
        rw [zz] at this
        exact this
      · exact (WrIs.new w2 (F := fun b => b = w2.heap.size) rfl).alloc _
      · rintro b rfl; simp; omega
      · rintro ad e; injection e with e; subst e; simp; omega
    have z2 := K2.size
    generalize (w2.alloc (.cells #[.nilIface, .slice none 0 0] 64)).alloc (.cells #[] 5) = w4 at *
    generalize w2.heap.size = g at *
    go_loopw [4, 5, 20] (fun v4 v5 i wr => ∃ k A4 c4 F l, k ≤ n ∧ i = .int .i64 (k : Int) ∧ v5 = .int .i64 ((firstErr (ops.take k) : Nat) : Int) ∧ v4 = .slice A4 (wants (ops.take k)).length c4 ∧ WState w wr E g ops A4 c4 F l k) (fun _ _ i _ => n - (intOf i).toNat)
    case atStart => exact ⟨0, _, _, _, _, Nat.zero_le _, rfl, rfl, rfl, st0⟩
    case round =>
      obtain ⟨k, A4, c4, F, l, hk, rfl, rfl, rfl, st⟩ := hrel
      have hbl : Below w.heap.size w wr := st.kept.below (Nat.le_refl _) (fun _ h => h.elim)
      have he1 := he.below hbl (Nat.le_refl _)
      by_cases hlt : k < n
      · have hb : decide ((k : Int) < (n : Int)) = true := by simp; omega
        have hko : k < ops.length := by have := Hn.out; omega
        obtain ⟨b, off, rfl, hc⟩ := ho (by intro e; rw [e] at hko; simp at hko)
        obtain ⟨x0, x1, x2, x3, hmx, Ab, cb, x4, hbw, _⟩ := hc k hko
        have c0 := st.kept.cell x0 (fun h => h)
        have c1 := st.kept.cell x1 (fun h => h)
        have c2 := st.kept.cell x2 (fun h => h)
        have c3 := st.kept.cell x3 (fun h => h)
        have c4' := st.kept.cell x4 (fun h => h)
        have hbx := hbw.kept' st.kept (fun _ _ _ h => h)
        clear x0 x1 x2 x3 x4
        have hxl := Hl2.out ops[k] (List.getElem_mem hko)
        have htk : ops.take (k + 1) = ops.take k ++ [ops[k]] := List.take_succ_eq_append_getElem hko
        have Htk := Lib.hid htk
        clear hc htk
        generalize ops[k] = o at *
        go_wp2_with fail
        have hbox := Blk.new wr 29 #[.int .i64 o.kind, .int .i64 o.n, .int .i64 o.width, .int .i64 o.most, .slice Ab o.bytes.length cb]
        have KA := (Kept.refl (fun _ => False) wr).alloc (.cells #[.int .i64 o.kind, .int .i64 o.n, .int .i64 o.width, .int .i64 o.most, .slice Ab o.bytes.length cb] 29)
        have hwA := st.writer.kept KA (fun _ _ h => h)
        have heA := he1.grown KA.none_grown (fun _ e => by cases e)
        have hbA := hbx.kept' KA (fun _ _ _ h => h)
        have zA := KA.size
        have zw := st.kept.size
        have hnF : ∀ ad, Ab = some ad → o.bytes ≠ [] → ¬ F ad.block := fun ad e hne hF => by
          have h1 := hbw.lt ad e hne
          have h2 := st.low _ hF
          omega
        generalize wr.alloc (.cells #[.int .i64 o.kind, .int .i64 o.n, .int .i64 o.width, .int .i64 o.most, .slice Ab o.bytes.length cb] 29) = wA at *
        refine (write_step wA F _ g E l (ops.take k) o Ab cb k hwA st.same (heA.vars _ (by decide)) hbA hnF st.len (by omega) hxl).mono ?_
        rintro e w5 ⟨rfl, ⟨l', hw5, hs5, hl5⟩, K5⟩
        have hbox5 := hbox.kept K5 (fun h => absurd (st.low _ h).2 (by omega))
        have d0 := hbox5.cell 0
        have d1 := hbox5.cell 1
        have d2 := hbox5.cell 2
        have d3 := hbox5.cell 3
        have d4 := hbox5.cell 4
        simp at d0 d1 d2 d3 d4
        have hb5 := hbA.kept' K5 hnF
        clear c0 c1 c2 c3 c4'
        go_wp2_with fail
        refine (written_any w5 o Ab cb hmx hb5).mono ?_
        rintro e w6 ⟨A6, c6, rfl, hb6, k6⟩
        have hown6 := own_kept (own_kept (own_kept st.own KA (fun _ _ h => h)) K5 (fun b hb h => by
          rcases A4 with _ | ad
          · simp [Value.ownBlock] at hb
          · have e : ad.block = b := by simpa [Value.ownBlock] using hb
            subst e
            exact (st.apart ad rfl).1 h)) (Kept.of_grown (F := fun _ => False) k6 fun _ e => by cases e) (fun _ _ h => h)
        have hwb := wBytes_len o hxl
        have hbig : (wants (ops.take k)).length + (wBytes o).length ≤ 140737488355328 := by have := st.wlen; omega
        have hstep : ∀ A7 c7 w7, w7.ownsRow 0 5 1 (.slice A7 ((wants (ops.take k)).length + (wBytes o).length) c7) ((wants (ops.take k)).length + (wBytes o).length) (Lib.byteCells (wants (ops.take k)) ++ Lib.byteCells (wBytes o)) →
            w6.grownBy w7 (Value.slice A4 (wants (ops.take k)).length c4).ownBlock →
            ((Value.slice A7 ((wants (ops.take k)).length + (wBytes o).length) c7).ownBlock = (Value.slice A4 (wants (ops.take k)).length c4).ownBlock ∨ (Value.slice A7 ((wants (ops.take k)).length + (wBytes o).length) c7).ownBlock = some w6.heap.size) →
            WState w w7 E g ops A7 c7 (upTo F wA.heap.size w5.heap.size) l' (k + 1) := fun A7 c7 w7 h1 h2 h3 => st.step zw Htk.out KA zA K5 hw5 hs5 hl5 k6 hxl h1 h2 h3
        have Hstep := Lib.hid hstep
        have Hfe : Hid (firstErr (ops.take (k + 1)) = if firstErr (ops.take k) = 0 then wErr o else firstErr (ops.take k)) := by rw [Htk.out]; exact firstErr_snoc _ _
        have Hwl : Hid ((wants (ops.take (k + 1))).length = (wants (ops.take k)).length + (wBytes o).length) := by rw [Htk.out, wants_snoc]; exact List.length_append
        clear hstep hs5 hw5 hl5
        by_cases hf : firstErr (ops.take k) = 0
        · have q0 : (((firstErr (ops.take k) : Nat) : Int) == 0) = true := by rw [hf]; rfl
          have Hf := Lib.hid hf
          clear hf
          go_wp2_with (at_builtin; refine wpList_append_bytes _ rfl _ _ 27 rfl 0 5 i0 _ Tryd.underlying27 hi hz0 hz1 hz2 rfl _ _ _ rfl hown6 A6 c6 (wBytes o) rfl hb6 hbig (Nat.zero_le _) ?_)
          intro A7 c7 w7 hown7 k7 hat7
          go_wp2_with fail
          go_roundw
          case rel => exact ⟨k + 1, A7, c7, _, l', by omega, by go_num, by rw [Hfe.out, if_pos Hf.out], by rw [Hwl.out], Hstep.out A7 c7 w7 hown7 k7 hat7⟩
          case measure => simp [intOf]; omega
        · have q0 : (((firstErr (ops.take k) : Nat) : Int) == 0) = false := by simp; omega
          have Hf := Lib.hid hf
          clear hf
          go_wp2_with (at_builtin; refine wpList_append_bytes _ rfl _ _ 27 rfl 0 5 i0 _ Tryd.underlying27 hi hz0 hz1 hz2 rfl _ _ _ rfl hown6 A6 c6 (wBytes o) rfl hb6 hbig (Nat.zero_le _) ?_)
          intro A7 c7 w7 hown7 k7 hat7
          go_wp2_with fail
          go_roundw
          case rel => exact ⟨k + 1, A7, c7, _, l', by omega, by go_num, by rw [Hfe.out, if_neg Hf.out], by rw [Hwl.out], Hstep.out A7 c7 w7 hown7 k7 hat7⟩
          case measure => simp [intOf]; omega
      · obtain rfl : k = n := by omega
        have hb : decide ((k : Int) < (k : Int)) = false := by simp
        have hall : ops.take k = ops := List.take_of_length_le (by have := Hn.out; omega)
        have hown := st.own
        have hw := st.writer
        have hsm := st.same
        have hwl := st.wlen
        rw [hall] at hown hw hsm hwl ⊢
        cases hf : firstErr ops with
        | zero =>
          rw [hf] at hw
          have hlw := hsm hf
          rw [hlw] at hw
          have q0 : (((firstErr ops : Nat) : Int) != 0) = false := by rw [hf]; rfl
          clear hf hsm hlw hall
          go_wp2_with fail
          refine (done_ok _ _ _ _ hw (by omega)).mono ?_
          rintro e w9 ⟨A9, c9, rfl, hown9, k9⟩
          have t1 := toString_any (own_bytesAt hown9) (n := (wants ops).length) (c := c9) rfl
          have t2 := toString_any (own_bytesAt (hown.kept k9 (by cases h : (Value.slice A4 (wants ops).length c4).ownBlock <;> simp))) (n := (wants ops).length) (c := c4) rfl
          go_wp2_with fail
          go_ret
          exact ⟨rfl, (st.kept.follow (Kept.of_grown (F := fun _ => False) k9 fun _ e => by cases e) (fun _ _ h => h)).below (Nat.le_refl _) (fun _ h => h.elim)⟩
        | succ j =>
          have hj : j < 18 := by have := firstErr_le ops; omega
          rw [hf] at hw
          have q0 : (((firstErr ops : Nat) : Int) != 0) = true := by rw [hf]; simp; omega
          have q1 : (((j : Nat) : Int) + 1 == ((firstErr ops : Nat) : Int)) = true := by rw [hf]; simp
          clear hf hsm hall
          go_wp2_with fail
          refine (done_err _ _ _ _ _ _ hw).mono ?_
          rintro e w9 ⟨rfl, k9⟩
          have he9 := he1.grown k9 (fun _ e => by cases e)
          go_wp2_with (go_at_call 16; refine (num_err _ _ E j hj he9).mono ?_; rintro e w5 ⟨rfl, k5⟩)
          go_ret
          exact ⟨rfl, ((st.kept.follow (Kept.of_grown (F := fun _ => False) k9 fun _ e => by cases e) (fun _ _ h => h)).follow (Kept.of_grown (F := fun _ => False) k5 fun _ e => by cases e) (fun _ _ h => h)).below (Nat.le_refl _) (fun _ h => h.elim)⟩
  · clear hn
    go_enter Tryd.func3, Tryd.ntmps3
    go_wp2_with fail
    refine (alive_any _).mono ?_
    rintro e w1 ⟨rfl, k1⟩
    have K1 : Kept (fun _ => False) w w1 := Kept.of_grown k1 fun _ e => by cases e
    go_wp2_with fail
    refine (long_any w1 A n c ops Hn.out (ho.kept K1)).mono ?_
    rw [hlong]
    rintro e w2 ⟨rfl, k2⟩
    go_wp2_with fail
    go_ret
    exact ⟨rfl, below_grown (grown_trans k1 k2) (Nat.le_refl _) (fun _ e => by cases e)⟩
end Go.Proofs.YtmmjpkijnecmcaaDoor
