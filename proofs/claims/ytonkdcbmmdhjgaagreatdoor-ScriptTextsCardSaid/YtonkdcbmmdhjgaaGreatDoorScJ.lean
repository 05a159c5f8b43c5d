/-
  script.parse.
-/
import Derived.Test.YtonkdcbmmdhjgaaGreatDoorScI
import Derived.Lib.SplitLaws
import Derived.Lib.IndexBytes
namespace Go.Proofs.YtonkdcbmmdhjgaaGreatDoor
open Go.RowKit Go.Shelf

theorem splitK_one (c : UInt8) : ∀ (n : Nat) (l : List UInt8), l.length ≤ n → Lib.splitK [c] 0 (Lib.count l [c]) l = splitP c l := by
  intro n
  induction n with
  | zero =>
    intro l hl
    obtain rfl := List.length_eq_zero_iff.1 (Nat.le_zero.1 hl)
    rw [Lib.count_miss (by simp [Lib.index])]; rfl
  | succ n ih =>
    intro l hl
    by_cases h : Lib.indexByte l c = -1
    · rw [Lib.count_miss (by rw [Lib.index_one]; exact h), splitP_none (ix_no h)]; rfl
    · have hge := Lib.indexByte_ge l c
      obtain ⟨j, hj⟩ : ∃ j : Nat, Lib.indexByte l c = (j : Int) := ⟨(Lib.indexByte l c).toNat, by omega⟩
      obtain ⟨hjl, hs, hno⟩ := ix_yes hj
      rw [Lib.count_hit (by simp) (by rw [Lib.index_one]; exact hj), Nat.add_comm, Lib.splitK, Lib.index_one, if_neg (by simpa using h), hj]
      simp only [Int.toNat_natCast, Nat.add_zero, List.length_singleton]
      rw [ih _ (by rw [List.length_drop]; omega)]
      conv => rhs; rw [hs, splitP_hit hno]
/-- A row of strings. -/
def wordsC (ps : List (List UInt8)) : List Value := ps.map fun x => .string (strB x)
theorem splitB_words (s : ByteArray) (c : UInt8) : (Lib.splitB ⟨#[c]⟩ 0 (Lib.countB s ⟨#[c]⟩) s).map Value.string = wordsC (splitP c s.data.toList) := by
  have h := Lib.splitB_data ⟨#[c]⟩ 0 (Lib.countB s ⟨#[c]⟩) s
  have e : Lib.splitK [c] 0 (Lib.countB s ⟨#[c]⟩) s.data.toList = splitP c s.data.toList := splitK_one c _ _ (Nat.le_refl _)
  rw [show (ByteArray.mk #[c]).data.toList = [c] from rfl, e] at h
  rw [wordsC, ← h, List.map_map]
  apply List.map_congr_left
  intro x _
  simp [strB_of]
theorem splitB_count (s : ByteArray) (c : UInt8) : Lib.countB s ⟨#[c]⟩ + 1 = (splitP c s.data.toList).length := by
  have h := Lib.splitB_all ⟨#[c]⟩ (show 1 ≤ 1 from Nat.le_refl 1) 0 _ s rfl
  have h2 := congrArg List.length (splitB_words s c)
  rw [List.length_map, wordsC, List.length_map] at h2
  omega
theorem split_words (s : ByteArray) (c : UInt8) (hs : s.size ≤ 1000000) (w : World) (he : ScEnv w) : Calls Tryz.prog 34 #[.string s, .string ⟨#[c]⟩] w fun e w' =>
    e = .returned (.slice (some ⟨w.heap.size, 0, none⟩) (splitP c s.data.toList).length (splitP c s.data.toList).length) ∧ w' = w.alloc (.cells (wordsC (splitP c s.data.toList)).toArray 9) := by
  obtain ⟨m, hm⟩ := he.max
  have h := Any.strings_Split Tryz.splitSc (by kernel_rfl) s ⟨#[c]⟩ m w (by omega) hm (show 1 ≤ 1 from Nat.le_refl 1)
  rw [splitB_words, splitB_count] at h
  exact h
theorem readAll_snoc : ∀ (cs : List UInt8) (ts : List (List UInt8)) (o : OpV) (c : UInt8) (t : List UInt8) (cs' : List UInt8) (ts' : List (List UInt8)), cs.length = ts.length →
    readAll (cs ++ c :: cs') (ts ++ t :: ts') o = (readAll cs ts o).bind fun o1 => (readS c t o1).bind (readAll cs' ts')
  | [], [], o, c, t, cs', ts', _ => by simp [readAll]
  | a :: cs, b :: ts, o, c, t, cs', ts', h => by
    simp only [List.cons_append, readAll]
    cases readS a b o with
    | none => rfl
    | some o1 => exact readAll_snoc cs ts o1 c t cs' ts' (by simpa using h)
  | [], _ :: _, _, _, _, _, _, h => by simp at h
  | _ :: _, [], _, _, _, _, _, h => by simp at h
/-- What parse leaves. -/
def ParsePost (w : World) (l : List UInt8) (e : Ending) (w' : World) : Prop := w.grownBy w' none ∧ match parseL l with
  | some v => ∃ o : OpM, o.v = v ∧ e = .returned (.tuple #[.agg o.val, .bool true]) ∧ o.Own w' w.heap.size
  | none => e = .returned (.tuple #[.agg OpM.zero.val, .bool false])
theorem load_op {w : World} {g : Nat} {t : TypeId} {o : OpM} (h : Blk w g t o.val) : (loadVar 29 ⟨g, 0, none⟩).run Tryz.prog w = .ok (.agg o.val) w := by
  have h0 : w.cell? ⟨g, 0, none⟩ = some (.int .i64 o.v.kind) := h.cell 0
  have h1 : w.cell? ⟨g, 1, none⟩ = some (.int .i64 o.v.node) := h.cell 1
  have h2 : w.cell? ⟨g, 2, none⟩ = some (.int .i64 o.v.n) := h.cell 2
  have h3 : w.cell? ⟨g, 3, none⟩ = some (.slice o.A1 o.v.set.length o.c1) := h.cell 3
  have h4 : w.cell? ⟨g, 4, none⟩ = some (.slice o.A2 o.v.keep.length o.c2) := h.cell 4
  have h5 : w.cell? ⟨g, 5, none⟩ = some (.slice o.A3 o.v.data.length o.c3) := h.cell 5
  go_simp
  rfl
theorem shape_pos {k : Int} (h : (shapeS k).1 ≠ []) : 1 ≤ (shapeS k).2.length ∧ (shapeS k).2.length ≤ 3 := by
  rcases shape_cases k with (rfl | rfl | rfl | rfl | rfl | rfl | rfl | rfl | rfl | rfl) | ⟨_, h2⟩
  iterate 10 · exact ⟨by decide, by decide⟩
  · rw [h2] at h; exact absurd rfl h
theorem shape_le (k : Int) : (shapeS k).2.length ≤ 3 := by
  rcases shape_cases k with (rfl | rfl | rfl | rfl | rfl | rfl | rfl | rfl | rfl | rfl) | ⟨_, h2⟩
  iterate 10 · decide
  · rw [h2]; decide
theorem readAll_len : ∀ (cs : List UInt8) (ts : List (List UInt8)) (o v : OpV), readAll cs ts o = some v → cs.length = ts.length
  | [], [], _, _, _ => rfl
  | c :: cs, t :: ts, o, v, h => by
    rw [readAll] at h
    obtain ⟨o1, _, h2⟩ := Option.bind_eq_some_iff.1 h
    simp [readAll_len cs ts o1 v h2]
  | [], _ :: _, _, _, h => by cases h
  | _ :: _, [], _, _, h => by cases h
theorem parseL_words {l w : List UInt8} {ts : List (List UInt8)} (h : splitP 32 l = w :: ts) : parseL l = if kindS w = 0 then none else readAll (shapeS (kindS w)).2 ts { OpV.zero with kind := kindS w } := by
  unfold parseL parseW; rw [h]
theorem words_len {l : List UInt8} : (splitP 32 l).length ≤ l.length + 1 := by
  have h1 := joinP_len 32 (splitP 32 l) (splitP_ne 32 l)
  rw [joinP_splitP] at h1
  have : ∀ ps : List (List UInt8), ps.length ≤ (ps.map (·.length + 1)).sum := by
    intro ps
    induction ps with
    | nil => simp
    | cons a r ih => simp only [List.length_cons, List.map_cons, List.sum_cons]; omega
  have := this (splitP 32 l)
  omega
theorem array6 {cs : Array Value} (h : cs.size = 6) : ∃ a b c d e f, cs = #[a, b, c, d, e, f] := by
  obtain ⟨l⟩ := cs
  have h : l.length = 6 := h
  obtain ⟨a, l, rfl⟩ := List.exists_cons_of_length_eq_add_one h
  have h : l.length = 5 := by simpa using h
  obtain ⟨b, l, rfl⟩ := List.exists_cons_of_length_eq_add_one h
  have h : l.length = 4 := by simpa using h
  obtain ⟨c, l, rfl⟩ := List.exists_cons_of_length_eq_add_one h
  have h : l.length = 3 := by simpa using h
  obtain ⟨d, l, rfl⟩ := List.exists_cons_of_length_eq_add_one h
  have h : l.length = 2 := by simpa using h
  obtain ⟨e, l, rfl⟩ := List.exists_cons_of_length_eq_add_one h
  have h : l.length = 1 := by simpa using h
  obtain ⟨f, l, rfl⟩ := List.exists_cons_of_length_eq_add_one h
  have h : l.length = 0 := by simpa using h
  obtain rfl := List.length_eq_zero_iff.1 h
  exact ⟨a, b, c, d, e, f, rfl⟩
theorem op_stored {W : World} {g : Nat} {t : TypeId} {cs : Array Value} (h : Blk W g t cs) (h6 : cs.size = 6) (a b c d e f : Value) :
    Blk ((((((W.setCell ⟨g, 0, none⟩ a).setCell ⟨g, 1, none⟩ b).setCell ⟨g, 2, none⟩ c).setCell ⟨g, 3, none⟩ d).setCell ⟨g, 4, none⟩ e).setCell ⟨g, 5, none⟩ f) g t #[a, b, c, d, e, f] := by
  obtain ⟨x0, x1, x2, x3, x4, x5, rfl⟩ := array6 h6
  exact (((((h.set 0 a).set 1 b).set 2 c).set 3 d).set 4 e).set 5 f
theorem op_grown {a W : World} (h : a.grownBy W none) {g : Nat} (hg : a.heap.size ≤ g) (u v x y z q : Value) :
    a.grownBy ((((((W.setCell ⟨g, 0, none⟩ u).setCell ⟨g, 1, none⟩ v).setCell ⟨g, 2, none⟩ x).setCell ⟨g, 3, none⟩ y).setCell ⟨g, 4, none⟩ z).setCell ⟨g, 5, none⟩ q) none :=
  grown_cell (grown_cell (grown_cell (grown_cell (grown_cell (grown_cell h _ hg) _ hg) _ hg) _ hg) _ hg) _ hg
theorem results_cell_tS {fn : Func} {s u : Tmp} {t : TypeId} (h : fn.results = #[.cell s t, .tmp u]) (tmps : Array Value) (P : Program) (w : World) (p : Addr) (v : Value)
    (hp : tmps.getD s undef = .pointer (some p)) (hl : (loadVar t p).run P w = .ok v w) : (results fn tmps).run P w = .ok (.tuple #[v, tmps.getD u undef]) w := by
  have hq : tmps[s]?.getD undef = .pointer (some p) := by simpa using hp
  simp [results, h, hq, asAddr, hl]
set_option maxRecDepth 100000 in
set_option maxHeartbeats 2000000 in
theorem parse_is (s : ByteArray) (hs : s.size ≤ 90000) (w : World) (he : ScEnv w) : Calls Tryz.prog 18 #[.string s] w (ParsePost w s.data.toList) := by
  obtain ⟨l, hl⟩ : ∃ l, l = s.data.toList := ⟨_, rfl⟩
  have hln : l.length = s.size := by rw [hl]; exact Array.length_toList
  obtain ⟨Q, hQ⟩ : ∃ Q, Q = ParsePost w l := ⟨_, rfl⟩
  rw [← hl, ← hQ]
  obtain ⟨W1, hW1⟩ : ∃ W1, w.alloc (.cells OpM.zero.val 29) = W1 := ⟨_, rfl⟩
  have g1 : w.grownBy W1 none := by rw [← hW1]; exact World.grownBy_alloc _ _ none
  have b1 : Blk W1 w.heap.size 29 OpM.zero.val := by rw [← hW1]; exact Blk.new _ _ _
  have z1 : W1.heap.size = w.heap.size + 1 := by rw [← hW1]; simp
  cases hws : splitP 32 l with
  | nil => exact absurd hws (splitP_ne _ _)
  | cons w0 ts =>
    obtain ⟨n, hn⟩ : ∃ n, n = (splitP 32 l).length := ⟨_, rfl⟩
    have hnl : n = ts.length + 1 := by rw [hn, hws]; rfl
    have hnb : n ≤ 100000 := by have := words_len (l := l); omega
    obtain ⟨wc, hwc⟩ : ∃ wc, wc = (wordsC (w0 :: ts)).toArray := ⟨_, rfl⟩
    have HSp := Lib.hid (show Calls Tryz.prog 34 #[.string s, .string ⟨#[32]⟩] W1 fun e w' => e = .returned (.slice (some ⟨W1.heap.size, 0, none⟩) n n) ∧ w' = W1.alloc (.cells wc 9) by
      have := split_words s 32 (by omega) W1 (he.grown g1)
      rw [← hl, ← hn, hws, ← hwc] at this; exact this)
    obtain ⟨W2, hW2⟩ : ∃ W2, W1.alloc (.cells wc 9) = W2 := ⟨_, rfl⟩
    have g2 : w.grownBy W2 none := by rw [← hW2]; exact grown_trans g1 (World.grownBy_alloc _ _ none)
    have b2 : Blk W2 w.heap.size 29 OpM.zero.val := by rw [← hW2]; exact b1.alloc _
    have bw : Blk W2 (w.heap.size + 1) 9 wc := by rw [← hW2, ← z1]; exact Blk.new _ _ _
    have z2 : W2.heap.size = w.heap.size + 2 := by rw [← hW2]; simp [z1]
    obtain ⟨S0, hS0⟩ : ∃ S0, S0 = strB w0 := ⟨_, rfl⟩
    have cw0 : W2.cell? ⟨w.heap.size + 1, 0, none⟩ = some (.string S0) := by rw [bw.cell 0, hwc, hS0]; rfl
    obtain ⟨K, hK⟩ : ∃ K, K = kindS w0 := ⟨_, rfl⟩
    obtain ⟨ps, hps⟩ : ∃ ps, ps = (shapeS K).2 := ⟨_, rfl⟩
    have HF := Lib.hid (show Calls Tryz.prog 35 #[.string S0] W2 fun e w' => e = .returned (.tuple #[.int .i64 K, .string (strB ps)]) ∧ w' = W2 by
      have := find_is S0 W2; rw [hS0, strB_list, ← hK, ← hps] at this; rw [hS0]; exact this)
    have hparse : parseL l = if K = 0 then none else readAll ps ts { OpV.zero with kind := K } := by rw [parseL_words hws, ← hK, ← hps]
    have hn1 : 1 ≤ n := by omega
    obtain ⟨m, hm⟩ : ∃ m, m = ps.length := ⟨_, rfl⟩
    obtain ⟨P, hP⟩ : ∃ P, P = strB ps := ⟨_, rfl⟩
    have hPs : P.size = m := by rw [hP, strB_size, hm]
    rw [← hP] at HF
    have hm3 : m ≤ 3 := by rw [hm, hps]; exact shape_le K
    have HP := Lib.hid (And.intro hP hm)
    clear hP hm
    have c2 : W2.cell? ⟨w.heap.size, 0, none⟩ = some (.int .i64 0) := b2.cell 0
    have f2 := b2.frozen 0
    have HQ := Lib.hid (And.intro hQ (And.intro hl (And.intro hws (And.intro hnl (And.intro hK (And.intro hps (And.intro hparse (And.intro hn hwc))))))))
    have HG := Lib.hid (And.intro g2 (And.intro b2 (And.intro bw (And.intro z2 (And.intro he hln)))))
    have HW := Lib.hid (And.intro hW1 (And.intro hW2 z1))
    clear hQ hl hws hnl hK hps hparse hn g2 b2 bw z2 he hln hW1 hW2 z1 g1 b1 hwc hS0 c2 f2
    go_enter Tryz.func18, Tryz.ntmps18
    go_wp2_with fail
    have e1 : w.alloc (.cells #[.int .i64 0, .int .i64 0, .int .i64 0, .slice none 0 0, .slice none 0 0, .slice none 0 0] 29) = W1 := HW.out.1
    rw [e1]
    refine HSp.out.mono ?_
    rintro e w9 ⟨rfl, rfl⟩
    rw [HW.out.2.1, HW.out.2.2]
    go_wp2_with fail
    refine HF.out.mono ?_
    rintro e w9 ⟨rfl, rfl⟩
    have c2 : w9.cell? ⟨w.heap.size, 0, none⟩ = some (.int .i64 0) := HG.out.2.1.cell 0
    have c3 : w9.cell? ⟨w.heap.size, 1, none⟩ = some (.int .i64 0) := HG.out.2.1.cell 1
    have c4 : w9.cell? ⟨w.heap.size, 2, none⟩ = some (.int .i64 0) := HG.out.2.1.cell 2
    have c5 : w9.cell? ⟨w.heap.size, 3, none⟩ = some (.slice none 0 0) := HG.out.2.1.cell 3
    have c6 : w9.cell? ⟨w.heap.size, 4, none⟩ = some (.slice none 0 0) := HG.out.2.1.cell 4
    have c7 : w9.cell? ⟨w.heap.size, 5, none⟩ = some (.slice none 0 0) := HG.out.2.1.cell 5
    have f2 := HG.out.2.1.frozen 0
    have f3 := HG.out.2.1.frozen 1
    have f4 := HG.out.2.1.frozen 2
    have f5 := HG.out.2.1.frozen 3
    have f6 := HG.out.2.1.frozen 4
    have f7 := HG.out.2.1.frozen 5
    by_cases hk0 : K = 0
    · have d1 : (K == 0) = true := by simpa using hk0
      have HN := Lib.hid (show parseL l = none by rw [HQ.out.2.2.2.2.2.2.1, if_pos hk0])
      clear hk0
      go_wp2_with fail
      refine bodyPost_ret (results_cell_tS rfl _ _ _ ⟨w.heap.size, 0, none⟩ (.agg OpM.zero.val) rfl (load_op (o := OpM.zero) (op_stored HG.out.2.1 rfl _ _ _ _ _ _))) rfl ?_
      rw [HQ.out.1]
      exact ⟨op_grown HG.out.1 (Nat.le_refl _) _ _ _ _ _ _, by rw [HN.out]; rfl⟩
    have d1 : (K == 0) = false := by simpa using hk0
    by_cases hnm : n = m + 1
    · have d2 : ((m : Int) + 1 == 1 + (m : Int)) = true := by simp; omega
      have d3 : ((m : Int) + 1 != 1 + (m : Int)) = false := by simp; omega
      have d4 : 2 ≤ n := by
        have h9 : (shapeS K).1 ≠ [] := by
          have h8 := HQ.out.2.2.2.2.1
          rw [h8]
          have := (kindS_back (by rw [← h8]; exact hk0))
          rw [this.1]; exact this.2
        have := (shape_pos h9).1
        have h7 := HP.out.2
        have h6 := HQ.out.2.2.2.2.2.1
        rw [← h6, ← h7] at this
        omega
      obtain ⟨q, hq⟩ : ∃ q, q = w9.heap.size := ⟨_, rfl⟩
      have HQW := Lib.hid (show q = w.heap.size + 2 by rw [hq]; exact HG.out.2.2.2.1)
      obtain ⟨o0, ho0⟩ : ∃ o0 : OpM, o0 = ⟨{ OpV.zero with kind := K }, none, 0, none, 0, none, 0⟩ := ⟨_, rfl⟩
      obtain ⟨W3, hW3⟩ : ∃ W3, w9.alloc (.cells #[.int .i64 K, .int .i64 0, .int .i64 0, .slice none 0 0, .slice none 0 0, .slice none 0 0] 29) = W3 := ⟨_, rfl⟩
      have g3 : w9.grownBy W3 none := by rw [← hW3]; exact World.grownBy_alloc _ _ none
      have b3 : Blk W3 q 29 o0.val := by rw [← hW3, hq, ho0]; exact Blk.new _ _ _
      have hown0 : o0.Own W3 w.heap.size := by rw [ho0]; exact OpM.zero_own _ _
      have HI := Lib.hid (show readAll (ps.take 0) (ts.take 0) { OpV.zero with kind := K } = some o0.v ∧ Blk W3 q 29 o0.val ∧ o0.Own W3 w.heap.size ∧ Blk W3 (w.heap.size + 1) 9 wc ∧ Blk W3 w.heap.size 29 OpM.zero.val ∧ w.grownBy W3 none from
        ⟨by rw [ho0]; rfl, b3, hown0, HG.out.2.2.1.grown g3 (by simp), HG.out.2.1.grown g3 (by simp), grown_trans HG.out.1 g3⟩)
      have HW3 := Lib.hid (And.intro hW3 hq)
      clear hW3 g3 b3 hown0 ho0 hq
      go_wp2_with fail
      rw [HW3.out.1, ← HW3.out.2]
      subst hnm
      go_loopw [35] (fun i wr => ∃ (k : Nat) (o : OpM), k ≤ m ∧ i = .int .i64 (k : Int) ∧ readAll (ps.take k) (ts.take k) { OpV.zero with kind := K } = some o.v ∧ Blk wr q 29 o.val ∧ o.Own wr w.heap.size ∧ Blk wr (w.heap.size + 1) 9 wc ∧ Blk wr w.heap.size 29 OpM.zero.val ∧ w.grownBy wr none) (fun i _ => m - (intOf i).toNat)
      case atStart => exact ⟨0, o0, by omega, rfl, HI.out⟩
      case round =>
        obtain ⟨k, o, hk, rfl, hr, hb, ho, hbw, hbz, hK⟩ := hrel
        have HPM := Lib.hid (And.intro HP.out.2 (show ts.length = m by have := HQ.out.2.2.2.1; omega))
        by_cases hlt : k < m
        · have d5 : decide ((k : Int) < (m : Int)) = true := by simp; omega
          obtain ⟨c, hc⟩ : ∃ c, ps[k]? = some c := ⟨_, List.getElem?_eq_getElem (by have := HPM.out.1; omega)⟩
          obtain ⟨t, ht⟩ : ∃ t, ts[k]? = some t := ⟨_, List.getElem?_eq_getElem (by have := HPM.out.2; omega)⟩
          obtain ⟨C, hC⟩ : ∃ C : Int, C = (c.toNat : Int) := ⟨_, rfl⟩
          obtain ⟨T, hT⟩ : ∃ T, T = strB t := ⟨_, rfl⟩
          have hix : ∀ W, Sem.run Tryz.prog (Instr.index 9 (.string P) (.int .i64 (k : Int))) W = .ok (.int .u8 C) W := fun W => by
            rw [hC]
            exact str_at P k c (by rw [HP.out.1, strB_list]; exact hc) W
          have ct : wr.cell? ⟨w.heap.size + 1, 1 + k, none⟩ = some (.string T) := by
            rw [hbw.cell (1 + k), HQ.out.2.2.2.2.2.2.2.2, hT, List.getElem?_toArray, wordsC, List.map_cons, Nat.add_comm, List.getElem?_cons_succ, List.getElem?_map, ht]; rfl
          have htl2 : t.length ≤ l.length := by
            refine piece_len (c := 32) ?_
            rw [HQ.out.2.2.1]
            exact List.mem_cons_of_mem _ (List.mem_of_getElem? ht)
          have HR := Lib.hid (show Calls Tryz.prog 14 #[.pointer (some ⟨q, 0, none⟩), .int .u8 C, .string T] wr (ReadPost wr q w.heap.size c t o) by
            have := read_is wr (HG.out.2.2.2.2.1.grown hK) q w.heap.size o hb ho hK.size c C hC T (by rw [hT, strB_size]; have := HG.out.2.2.2.2.2; omega)
            rwa [hT, strB_list, ← hT] at this)
          have hstep : ∀ (cs' : List UInt8) (ts' : List (List UInt8)), readAll (ps.take k ++ c :: cs') (ts.take k ++ t :: ts') { OpV.zero with kind := K } = (readS c t o.v).bind (readAll cs' ts') := fun cs' ts' => by
            rw [readAll_snoc _ _ _ _ _ _ _ (by rw [List.length_take, List.length_take]; have := HPM.out.1; have := HPM.out.2; omega), hr]; rfl
          have hsplit : ps = ps.take k ++ c :: ps.drop (k + 1) ∧ ts = ts.take k ++ t :: ts.drop (k + 1) := by
            obtain ⟨h1, e1⟩ := List.getElem?_eq_some_iff.1 hc
            obtain ⟨h2, e2⟩ := List.getElem?_eq_some_iff.1 ht
            constructor
            · conv => lhs; rw [← List.take_append_drop k ps, List.drop_eq_getElem_cons h1, e1]
            · conv => lhs; rw [← List.take_append_drop k ts, List.drop_eq_getElem_cons h2, e2]
          have HX := Lib.hid (And.intro hc (And.intro ht (And.intro hstep (And.intro hsplit (And.intro hbw (And.intro hbz hK))))))
          clear hr hb ho hbw hK hC hT hstep hsplit htl2 hc ht hbz
          go_wp2_with fail
          refine HR.out.mono ?_
          rintro e w2 ⟨k2, hpost⟩
          have gk : w.grownBy w2 none := grown_fresh HX.out.2.2.2.2.2.2 k2 (by have := HQW.out; omega)
          have bz : Blk w2 w.heap.size 29 OpM.zero.val := HX.out.2.2.2.2.2.1.grown k2 (by intro e; have := Option.some.inj e; have := HQW.out; omega)
          have bw : Blk w2 (w.heap.size + 1) 9 wc := HX.out.2.2.2.2.1.grown k2 (by intro e; have := Option.some.inj e; have := HQW.out; omega)
          cases hrs : readS c t o.v with
          | none =>
            rw [hrs] at hpost
            have hpost : e = .returned (.bool false) := hpost
            subst hpost
            have HN := Lib.hid (show parseL l = none by
              rw [HQ.out.2.2.2.2.2.2.1, if_neg hk0, HX.out.2.2.2.1.1, HX.out.2.2.2.1.2, HX.out.2.2.1, hrs]; rfl)
            have c2 : w2.cell? ⟨w.heap.size, 0, none⟩ = some (.int .i64 0) := bz.cell 0
            have c3 : w2.cell? ⟨w.heap.size, 1, none⟩ = some (.int .i64 0) := bz.cell 1
            have c4 : w2.cell? ⟨w.heap.size, 2, none⟩ = some (.int .i64 0) := bz.cell 2
            have c5 : w2.cell? ⟨w.heap.size, 3, none⟩ = some (.slice none 0 0) := bz.cell 3
            have c6 : w2.cell? ⟨w.heap.size, 4, none⟩ = some (.slice none 0 0) := bz.cell 4
            have c7 : w2.cell? ⟨w.heap.size, 5, none⟩ = some (.slice none 0 0) := bz.cell 5
            have f2 := bz.frozen 0
            have f3 := bz.frozen 1
            have f4 := bz.frozen 2
            have f5 := bz.frozen 3
            have f6 := bz.frozen 4
            have f7 := bz.frozen 5
            have HZ := Lib.hid (And.intro bz gk)
            clear bz gk bw hrs
            go_wp2_with fail
            refine bodyPost_ret (results_cell_tS rfl _ _ _ ⟨w.heap.size, 0, none⟩ (.agg OpM.zero.val) rfl (load_op (o := OpM.zero) (op_stored HZ.out.1 rfl _ _ _ _ _ _))) rfl ?_
            rw [HQ.out.1]
            exact ⟨op_grown HZ.out.2 (Nat.le_refl _) _ _ _ _ _ _, by rw [HN.out]; rfl⟩
          | some v =>
            rw [hrs] at hpost
            obtain ⟨o2, hv2, rfl, hb2, ho2⟩ := hpost
            have HZ := Lib.hid (And.intro bz (And.intro gk (And.intro bw (And.intro hb2 (And.intro ho2 (And.intro hv2 hrs))))))
            clear bz gk bw hb2 ho2 hv2 hrs k2
            go_wp2_with fail
            go_roundw
            case rel =>
              obtain ⟨bz, gk, bw, hb2, ho2, hv2, hrs⟩ := HZ.out
              refine ⟨k + 1, o2, by omega, rfl, ?_, hb2, ho2, bw, bz, gk⟩
              rw [List.take_add_one, List.take_add_one, HX.out.1, HX.out.2.1]
              have := HX.out.2.2.1 [] []
              rw [hrs] at this
              simp only [Option.toList]
              rw [this, hv2]; rfl
            case measure => simp [intOf]; omega
        · have d5 : decide ((k : Int) < (m : Int)) = false := by simp; omega
          obtain rfl : k = m := by omega
          rw [List.take_of_length_le (by have := HPM.out.1; omega), List.take_of_length_le (by have := HPM.out.2; omega)] at hr
          have HN := Lib.hid (show parseL l = some o.v by rw [HQ.out.2.2.2.2.2.2.1, if_neg hk0, hr])
          have e0 : wr.cell? ⟨q, 0, none⟩ = some (.int .i64 o.v.kind) := hb.cell 0
          have e1 : wr.cell? ⟨q, 1, none⟩ = some (.int .i64 o.v.node) := hb.cell 1
          have e2 : wr.cell? ⟨q, 2, none⟩ = some (.int .i64 o.v.n) := hb.cell 2
          have e3 : wr.cell? ⟨q, 3, none⟩ = some (.slice o.A1 o.v.set.length o.c1) := hb.cell 3
          have e4 : wr.cell? ⟨q, 4, none⟩ = some (.slice o.A2 o.v.keep.length o.c2) := hb.cell 4
          have e5 : wr.cell? ⟨q, 5, none⟩ = some (.slice o.A3 o.v.data.length o.c3) := hb.cell 5
          have c2 : wr.cell? ⟨w.heap.size, 0, none⟩ = some (.int .i64 0) := hbz.cell 0
          have c3 : wr.cell? ⟨w.heap.size, 1, none⟩ = some (.int .i64 0) := hbz.cell 1
          have c4 : wr.cell? ⟨w.heap.size, 2, none⟩ = some (.int .i64 0) := hbz.cell 2
          have c5 : wr.cell? ⟨w.heap.size, 3, none⟩ = some (.slice none 0 0) := hbz.cell 3
          have c6 : wr.cell? ⟨w.heap.size, 4, none⟩ = some (.slice none 0 0) := hbz.cell 4
          have c7 : wr.cell? ⟨w.heap.size, 5, none⟩ = some (.slice none 0 0) := hbz.cell 5
          have f2 := hbz.frozen 0
          have f3 := hbz.frozen 1
          have f4 := hbz.frozen 2
          have f5 := hbz.frozen 3
          have f6 := hbz.frozen 4
          have f7 := hbz.frozen 5
          have HZ := Lib.hid (And.intro hbz (And.intro hK (And.intro ho hb)))
          clear hbz hK ho hb hbw hr
          go_wp2_with fail
          have hbr : Blk _ w.heap.size 29 o.val := op_stored HZ.out.1 rfl (.int .i64 o.v.kind) (.int .i64 o.v.node) (.int .i64 o.v.n) (.slice o.A1 o.v.set.length o.c1) (.slice o.A2 o.v.keep.length o.c2) (.slice o.A3 o.v.data.length o.c3)
          refine bodyPost_ret (results_cell_tS rfl _ _ _ ⟨w.heap.size, 0, none⟩ (.agg o.val) rfl (load_op hbr)) rfl ?_
          rw [HQ.out.1]
          refine ⟨op_grown HZ.out.2.1 (Nat.le_refl _) _ _ _ _ _ _, ?_⟩
          rw [HN.out]
          refine ⟨o, rfl, rfl, ?_⟩
          have hgs : wr.grownBy ((((((wr.setCell ⟨w.heap.size, 0, none⟩ (.int .i64 o.v.kind)).setCell ⟨w.heap.size, 1, none⟩ (.int .i64 o.v.node)).setCell ⟨w.heap.size, 2, none⟩ (.int .i64 o.v.n)).setCell ⟨w.heap.size, 3, none⟩ (.slice o.A1 o.v.set.length o.c1)).setCell ⟨w.heap.size, 4, none⟩ (.slice o.A2 o.v.keep.length o.c2)).setCell ⟨w.heap.size, 5, none⟩ (.slice o.A3 o.v.data.length o.c3)) (some w.heap.size) :=
            grown_trans (grown_trans (grown_trans (grown_trans (grown_trans (gset _ _ _ _) (gset _ _ _ _)) (gset _ _ _ _)) (gset _ _ _ _)) (gset _ _ _ _)) (gset _ _ _ _)
          exact HZ.out.2.2.1.apart HZ.out.1 hgs
    · have d2 : ((n : Int) == 1 + (m : Int)) = false := by simp; omega
      have d3 : ((n : Int) != 1 + (m : Int)) = true := by simp; omega
      have HN := Lib.hid (show parseL l = none by
        rw [HQ.out.2.2.2.2.2.2.1, if_neg hk0]
        cases h : readAll ps ts { OpV.zero with kind := K } with
        | none => rfl
        | some v =>
          have := readAll_len _ _ _ _ h
          have h1 := HP.out.2
          have h2 := HQ.out.2.2.2.1
          omega)
      clear hk0 hnm
      go_wp2_with fail
      refine bodyPost_ret (results_cell_tS rfl _ _ _ ⟨w.heap.size, 0, none⟩ (.agg OpM.zero.val) rfl (load_op (o := OpM.zero) (op_stored HG.out.2.1 rfl _ _ _ _ _ _))) rfl ?_
      rw [HQ.out.1]
      exact ⟨op_grown HG.out.1 (Nat.le_refl _) _ _ _ _ _ _, by rw [HN.out]; rfl⟩
end Go.Proofs.YtonkdcbmmdhjgaaGreatDoor
