/-
  script.writeBytes, writeBits.
-/
import Derived.Test.YtonkdcbmmdhjgaaGreatDoorScI
import Derived.Test.YtonkdcbmmdhjgaaGreatDoorBl
namespace Go.Proofs.YtonkdcbmmdhjgaaGreatDoor
open Go.RowKit Go.Shelf

theorem byte_infoS : (Tryz.prog.info? 5).map (fun i => (i.zero, i.size, i.bytes)) = some (some (.int .u8 0), 1, 1) := by kernel_rfl
theorem writeHex_snoc : ∀ (l : List UInt8) (x : UInt8), writeHex (l ++ [x]) = writeHex l ++ [hexD (x.toNat / 16), hexD (x.toNat % 16)]
  | [], _ => rfl
  | a :: r, x => by simp only [List.cons_append, writeHex, writeHex_snoc r x]
theorem and15 : ∀ v : Fin 256, bits BinOp.and IntKind.u8 (v.val : Int) 15 = ((v.val % 16 : Nat) : Int) := by decide +kernel
theorem str_ixk (k : IntKind) (s : ByteArray) (i : Nat) (b : UInt8) (h : s.data.toList[i]? = some b) (W : World) : Sem.run Tryz.prog (Instr.index 9 (.string s) (.int k (i : Int))) W = .ok (.int .u8 (b.toNat : Int)) W := by
  obtain ⟨hk, e⟩ := List.getElem?_eq_some_iff.1 h
  have hk2 : i < s.size := by have : s.data.toList.length = s.size := Array.length_toList; omega
  rw [run_index_string W 9 s k (i : Int) Tryz.underlying9, dif_pos ⟨by omega, by omega⟩]
  subst e
  congr 3
theorem hex_at : ∀ v : Fin 16, (⟨#[48, 49, 50, 51, 52, 53, 54, 55, 56, 57, 97, 98, 99, 100, 101, 102]⟩ : ByteArray).data.toList[v.val]? = some (hexD v.val) := by decide +kernel
theorem hex_ix (i : Nat) (h : i < 16) (W : World) : Sem.run Tryz.prog (Instr.index 9 (.string ⟨#[48, 49, 50, 51, 52, 53, 54, 55, 56, 57, 97, 98, 99, 100, 101, 102]⟩) (.int .u8 (i : Int))) W = .ok (.int .u8 ((hexD i).toNat : Int)) W :=
  str_ixk .u8 _ i _ (hex_at ⟨i, h⟩) W
set_option maxRecDepth 100000 in
/-- A string of bytes that are one's own. -/
theorem str_ownS {w : World} {base n c : Nat} {A : Option Addr} {l : List UInt8} (h : w.ownsRow base 5 1 (.slice A n c) n (Lib.byteCells l)) (_ : c = c) :
    (convert 27 9 (.slice A n c)).run Tryz.prog w = .ok (.string (strB l)) w := by
  rcases h.2 with ⟨e, hl⟩ | ⟨g, cap, cur, e, _, hh, _, _, hs, ht⟩
  · injection e with e1 e2 e3
    subst e1 e2 e3
    have hl0 : l = [] := by have := h.1; simpa [Lib.byteCells] using this
    subst hl0
    exact run_convert_bytes_nil w 27 5 Tryz.underlying27 Tryz.underlying5 _ _ 9 Tryz.underlying9
  · injection e with e1 e2 e3
    subst e1 e3
    have hn : l.length = n := by have := h.1; simpa [Lib.byteCells] using this
    subst hn
    refine run_convert_bytes_back w 27 9 5 ⟨g, 0, none⟩ c l Tryz.underlying27 Tryz.underlying5 Tryz.underlying9 fun j hj => ?_
    have hb : Blk w g 5 cur := hh
    rw [Go.WideShapes.add_plain, Nat.zero_add, hb.cell j]
    have hj2 : (cur.toList.take (l.length * 1))[j]? = some (.int .u8 l[j].toNat) := by rw [ht, Lib.byteCells, List.getElem?_map, List.getElem?_eq_getElem hj]; rfl
    rw [List.getElem?_take] at hj2
    split at hj2
    · simpa using hj2
    · cases hj2
/-- append of a few cells, as an equation of the run. -/
theorem push_run (w0 : World) (t ty e e0 : TypeId) (i : TypeInfo) (z : Value) (bytes : Nat) (ht : Tryz.prog.underlying t = some (.slice e)) (hi : Tryz.prog.info? e = some i) (hz : i.zero = some z) (hsize : i.size = 1) (hby : i.bytes = bytes) (hzs : z.cells.size = 1)
    (base : Nat) (v : Value) (n : Nat) (xs : List Value) (hown : w0.ownsRow base e 1 v n xs) (news : List Value) (h1 : ∀ u ∈ news, u.oneCell' = true) (hn : n ≤ 1000000) (hm : news.length ≤ 1000) (hb : bytes ≤ 1000) (hbase : base ≤ w0.heap.size) :
    ∃ v' w', (Builtin.append_ #[t, t] ty #[v, .slice (some ⟨w0.heap.size, 0, none⟩) news.length news.length]).run Tryz.prog (w0.alloc (.cells news.toArray e0)) = .ok v' w' ∧ w'.ownsRow base e 1 v' (n + news.length) (xs ++ news) ∧ w0.grownBy w' v.ownBlock := by
  obtain ⟨v', w', hrun, r1, r2, _⟩ := run_append_own (P := Tryz.prog) (w := w0.alloc (.cells news.toArray e0)) base t ty e i z 1 bytes ht hi hz hsize hby hzs (by omega) v n xs (hown.alloc _) ⟨w0.heap.size, 0, none⟩ news.length news.length news (by omega) (fun j u hu => by
    have h := (Blk.new w0 e0 news.toArray).cell j
    rw [Go.WideShapes.add_plain, Nat.zero_add, h]
    simpa using hu) h1 (by simp only [maxLen]; omega) (by
      have := Nat.mul_le_mul (show n + news.length ≤ 1001000 by omega) hb
      omega) (by rw [World.size_alloc]; omega)
  exact ⟨v', w', hrun, r1, grown_trans (World.grownBy_alloc w0 _ _) r2⟩
theorem wp_append {P : Program} {o : Oper} {a : Act} {w w' : World} {K : Act → World → Prop} {Q : Exit → Act → World → Prop} {s x : Operand} {t : TypeId} {v y v' : Value} (hop : o.op = .call { callee := .builtin .append, args := #[s, x], argTypes := #[t, t] }) (hs : a.eval s = v) (hx : a.eval x = y)
    (hrun : (Builtin.append_ #[t, t] o.type #[v, y]).run P w = .ok v' w') (h : K (a.put o.dst v') w') : Oper.wp P o a w K Q := by
  unfold Oper.wp
  simp [execOp, hop, resolve, invoke, builtin, hs, hx, hrun, Result.andThen]
  exact h
set_option maxRecDepth 100000 in
set_option maxHeartbeats 2000000 in
theorem wbytes_is (w : World) (A : Option Addr) (n c : Nat) (d : List UInt8) (hn : d.length = n) (hb : BytesAt w A d) (hd : n ≤ 100000) :
    Calls Tryz.prog 22 #[.slice A n c] w fun e w' => e = .returned (.string (strB (writeHex d))) ∧ w.grownBy w' none := by
  obtain ⟨i0, hi0, hz0, hz1, hz2⟩ := info_parts byte_infoS
  obtain ⟨w1, hmk, hown, hg1⟩ := run_make_own (P := Tryz.prog) w w.heap.size 27 5 i0 (.int .u8 0) 1 Tryz.underlying27 hi0 hz0 hz1 .i64 .i64 (2 * n) (by rw [hz2]; omega) (by simp only [maxLen]; omega) (Nat.le_refl _)
  have HI0 := Lib.hid (And.intro hi0 (And.intro hz0 (And.intro hz1 hz2)))
  have HO1 := Lib.hid (And.intro hown hg1)
  have HX := Lib.hid (And.intro hn hb)
  rw [show ((2 * n : Nat) : Int) = 2 * (n : Int) by omega] at hmk
  clear hi0 hz0 hz1 hz2 hown hg1 hn hb
  go_enter Tryz.func22, Tryz.ntmps22
  go_wp2_with fail
  go_loopw [3, 12] (fun v i wr => ∃ k : Nat, k ≤ n ∧ i = .int .i64 (k : Int) ∧ wr.ownsRow w.heap.size 5 1 v (2 * k) (Lib.byteCells (writeHex (d.take k))) ∧ w.grownBy wr none) (fun _ i _ => n - (intOf i).toNat)
  case atStart => exact ⟨0, Nat.zero_le _, rfl, HO1.out.1, HO1.out.2⟩
  case round =>
    obtain ⟨k, hk, rfl, hown, hK⟩ := hrel
    have HO := Lib.hid hown
    have HK := Lib.hid hK
    clear hown hK
    by_cases hlt : k < n
    · have d1 : decide ((k : Int) < (n : Int)) = true := by simp; omega
      have hkd : k < d.length := by rw [HX.out.1]; exact hlt
      obtain ⟨ad, rfl, hcs⟩ := (HX.out.2.grown HK.out (by simp)) (by intro e; rw [e] at hkd; simp at hkd)
      obtain ⟨x, hx⟩ : ∃ x, x = d[k] := ⟨_, rfl⟩
      have hx0 := hcs k hkd
      obtain ⟨b, off, rfl⟩ : ∃ b off, ad = ⟨b, off, none⟩ := addr_form (hcs 0 (by omega)) rfl
      obtain ⟨X, hX⟩ : ∃ X : Int, X = (x.toNat : Int) := ⟨_, rfl⟩
      rename World => wr
      have c0 : wr.cell? ⟨b, off + k, none⟩ = some (.int .u8 X) := by rw [hX, hx, ← Go.WideShapes.add_plain]; exact hx0
      have hXb : 0 ≤ X ∧ X < 256 := by have := x.toNat_lt; omega
      obtain ⟨H, hH⟩ : ∃ H : Int, H = ((hexD (x.toNat / 16)).toNat : Int) := ⟨_, rfl⟩
      obtain ⟨L, hL⟩ : ∃ L : Int, L = ((hexD (x.toNat % 16)).toNat : Int) := ⟨_, rfl⟩
      have hhi : ∀ W, Sem.run Tryz.prog (Instr.index 9 (.string ⟨#[48, 49, 50, 51, 52, 53, 54, 55, 56, 57, 97, 98, 99, 100, 101, 102]⟩) (.int .u8 (X / 16))) W = .ok (.int .u8 H) W := fun W => by
        have h := hex_ix (x.toNat / 16) (by have := x.toNat_lt; omega) W
        rw [hH, hX, show ((x.toNat : Int) / 16) = ((x.toNat / 16 : Nat) : Int) by omega]
        exact h
      have hlo : ∀ W, Sem.run Tryz.prog (Instr.index 9 (.string ⟨#[48, 49, 50, 51, 52, 53, 54, 55, 56, 57, 97, 98, 99, 100, 101, 102]⟩) (.int .u8 (bits BinOp.and IntKind.u8 X 15))) W = .ok (.int .u8 L) W := fun W => by
        have h := hex_ix (x.toNat % 16) (by omega) W
        rw [hL, hX, and15 ⟨x.toNat, x.toNat_lt⟩]
        exact h
      have hxq : d[k]? = some x := by rw [hx]; exact List.getElem?_eq_getElem hkd
      have HXX := Lib.hid (And.intro hxq (And.intro hH hL))
      clear hcs hx0 hX hx hkd hH hL hxq
      go_upto_region 5 with (fail)
      refine wp_region_held_drew (S := fun _ => True) (by kernel_rfl) trivial (fun hHeld => ?_)
      refine wpAnyH_take (i := 0) (oi := _) (v := ?va0) rfl (by kernel_rfl) (by kernel_rfl) (by kernel_rfl) (fun _ _ _ h => h) (Or.inl ⟨by rfl, ?hya0⟩) (by assumption) ?resta0
      case hya0 => (intro V hSw; (try dsimp only at hSw); go_simp) <;> with_reducible rfl
      try simp only [Act.put, List.getElem_toArray, List.getElem_cons_succ, List.getElem_cons_zero, List.setIfInBounds_toArray, List.set_cons_zero, List.set_cons_succ]
      refine wpAnyH_take (i := 1) (oi := _) (v := ?va1) rfl (by kernel_rfl) (by kernel_rfl) (by kernel_rfl) (fun _ _ _ h => h) (Or.inl ⟨by rfl, ?hya1⟩) (by assumption) ?resta1
      case hya1 => (intro V hSw; (try dsimp only at hSw); go_simp) <;> with_reducible rfl
      try simp only [Act.put, List.getElem_toArray, List.getElem_cons_succ, List.getElem_cons_zero, List.setIfInBounds_toArray, List.set_cons_zero, List.set_cons_succ]
      refine wpAnyH_take (i := 2) (oi := _) (v := ?va2) rfl (by kernel_rfl) (by kernel_rfl) (by kernel_rfl) (fun _ _ _ h => h) (Or.inl ⟨by rfl, ?hya2⟩) (by assumption) ?resta2
      case hya2 => (intro V hSw; (try dsimp only at hSw); go_simp) <;> with_reducible rfl
      try simp only [Act.put, List.getElem_toArray, List.getElem_cons_succ, List.getElem_cons_zero, List.setIfInBounds_toArray, List.set_cons_zero, List.set_cons_succ]
      refine wpAnyH_take (i := 3) (oi := _) (v := ?va3) rfl (by kernel_rfl) (by kernel_rfl) (by kernel_rfl) (fun _ _ _ h => h) (Or.inl ⟨by rfl, ?hya3⟩) (by assumption) ?resta3
      case hya3 => (intro V hSw; (try dsimp only at hSw); go_simp) <;> with_reducible rfl
      try simp only [Act.put, List.getElem_toArray, List.getElem_cons_succ, List.getElem_cons_zero, List.setIfInBounds_toArray, List.set_cons_zero, List.set_cons_succ]
      refine wpAnyH_take (i := 4) (oi := _) (v := ?va4) rfl (by kernel_rfl) (by kernel_rfl) (by kernel_rfl) (fun _ _ _ h => h) (Or.inl ⟨by rfl, ?hya4⟩) (by assumption) ?resta4
      case hya4 => (intro V hSw; (try dsimp only at hSw); go_simp) <;> with_reducible rfl
      try simp only [Act.put, List.getElem_toArray, List.getElem_cons_succ, List.getElem_cons_zero, List.setIfInBounds_toArray, List.set_cons_zero, List.set_cons_succ]
      refine wpAnyH_take (i := 5) (oi := _) (v := ?va5) rfl (by kernel_rfl) (by kernel_rfl) (by kernel_rfl) (fun _ _ _ h => h) (Or.inl ⟨by rfl, ?hya5⟩) (by assumption) ?resta5
      case hya5 => (intro V hSw; (try dsimp only at hSw); go_simp) <;> with_reducible rfl
      try simp only [Act.put, List.getElem_toArray, List.getElem_cons_succ, List.getElem_cons_zero, List.setIfInBounds_toArray, List.set_cons_zero, List.set_cons_succ]
      refine wpAnyH_take (i := 6) (oi := _) (v := ?va6) rfl (by kernel_rfl) (by kernel_rfl) (by kernel_rfl) (fun _ _ _ h => h) (Or.inl ⟨by rfl, ?hya6⟩) (by assumption) ?resta6
      case hya6 => (intro V hSw; (try dsimp only at hSw); go_simp) <;> with_reducible rfl
      try simp only [Act.put, List.getElem_toArray, List.getElem_cons_succ, List.getElem_cons_zero, List.setIfInBounds_toArray, List.set_cons_zero, List.set_cons_succ]
      refine wpAnyH_ready (rs := [7]) (by kernel_rfl) (by simp) ?_
      refine (AllReadyH.cons (o := _) rfl (fun K9 hK => ?_) AllReadyH.nil)
      go_simp
      refine hK.out _ _ trivial (fun hHeld => ?_)
      clear hK K9
      try simp only [Act.put, List.getElem_toArray, List.getElem_cons_succ, List.getElem_cons_zero, List.setIfInBounds_toArray, List.set_cons_zero, List.set_cons_succ]
      obtain ⟨v', w3, hrun, hown3, hgrow⟩ := push_run wr.drew 27 27 5 5 i0 (.int .u8 0) 1 Tryz.underlying27 HI0.out.1 HI0.out.2.1 HI0.out.2.2.1 HI0.out.2.2.2 rfl w.heap.size u3 (2 * k) _ HO.out [.int .u8 H, .int .u8 L] (by simp [Value.oneCell']) (by omega) (by simp) (by omega) HK.out.size
      have hrun : (Builtin.append_ #[27, 27] 27 #[u3, .slice (some ⟨wr.heap.size, 0, none⟩) 2 2]).run Tryz.prog (wr.drew.alloc (.cells #[.int .u8 H, .int .u8 L] 5)) = .ok v' w3 := hrun
      have HO3 := Lib.hid hown3
      have HK3 := Lib.hid (grown_own HK.out (grown_trans (grown_drew (World.grownBy.refl _ _)) hgrow) HO.out (Nat.le_refl _))
      clear hown3 hgrow
      refine wpAnyH_ready (rs := [8]) (by kernel_rfl) (by simp) ?_
      refine (AllReadyH.cons (o := _) rfl (fun K9 hK => ?_) AllReadyH.nil)
      rw [if_pos (by rfl)]
      refine wp_append rfl rfl rfl hrun ?_
      refine hK.out _ _ trivial (fun hHeld => ?_)
      clear hK K9 hrun
      try simp only [Act.put, List.getElem_toArray, List.getElem_cons_succ, List.getElem_cons_zero, List.setIfInBounds_toArray, List.set_cons_zero, List.set_cons_succ]
      refine wpAnyH_ready (rs := [9]) (by kernel_rfl) (by simp) ?_
      refine (AllReadyH.cons (o := _) rfl (fun K9 hK => ?_) AllReadyH.nil)
      go_simp
      refine hK.out _ _ trivial (fun hHeld => ?_)
      clear hK K9
      try simp only [Act.put, List.getElem_toArray, List.getElem_cons_succ, List.getElem_cons_zero, List.setIfInBounds_toArray, List.set_cons_zero, List.set_cons_succ]
      refine wpAnyH_done (by kernel_rfl) ?_ _
      go_wp2_with fail
      go_roundw
      case rel =>
        refine ⟨k + 1, by omega, rfl, ?_, HK3.out⟩
        have h := HO3.out
        obtain ⟨hx, hH, hL⟩ := HXX.out
        rw [List.take_add_one, hx]
        simp only [Option.toList]
        rw [writeHex_snoc, Lib.byteCells, List.map_append]
        rw [hH, hL] at h
        exact h
      case measure => simp [intOf]; omega
    · have d1 : decide ((k : Int) < (n : Int)) = false := by simp; omega
      obtain rfl : k = n := by omega
      obtain ⟨A, c, rfl⟩ := own_slice _ HO.out
      have htk : d.take k = d := List.take_of_length_le (by rw [HX.out.1]; exact Nat.le_refl _)
      rename World => wr
      have hcv := str_ownS HO.out (c := c) rfl
      rw [htk] at hcv
      go_wp2_with fail
      go_ret
      exact ⟨rfl, HK.out⟩
theorem bits_set (a : List UInt8) (x y : UInt8) (r : List UInt8) (k : Nat) (h : a.length = k) : (Lib.byteCells (a ++ x :: r)).toArray.setIfInBounds k (.int .u8 y.toNat) = (Lib.byteCells (a ++ y :: r)).toArray := by
  rw [← h]; exact bytes_set a x y r
set_option maxRecDepth 100000 in
set_option maxHeartbeats 2000000 in
theorem wbits_is (w : World) (A : Option Addr) (n c : Nat) (l : List Bool) (hn : l.length = n) (hb : BoolsAt w A l) (hd : n ≤ 1000) :
    Calls Tryz.prog 24 #[.slice A n c] w fun e w' => e = .returned (.string (strB (l.map bitD))) ∧ w.grownBy w' none := by
  have HX := Lib.hid (And.intro hn hb)
  have hmk := make_bytesN w n (by omega)
  have hb0 := Lib.hid (Blk.new w 5 (Lib.byteCells (List.replicate n 0)).toArray)
  clear hn hb
  go_enter Tryz.func24, Tryz.ntmps24
  go_wp2_with fail
  go_loopw [11] (fun i wr => ∃ k : Nat, k ≤ n ∧ i = .int .i64 (k : Int) ∧ Blk wr w.heap.size 5 (Lib.byteCells ((l.take k).map bitD ++ List.replicate (n - k) 0)).toArray ∧ w.grownBy wr none) (fun i _ => n - (intOf i).toNat)
  case atStart => exact ⟨0, Nat.zero_le _, rfl, hb0.out, World.grownBy_alloc _ _ none⟩
  case round =>
    obtain ⟨k, hk, rfl, hB, hK⟩ := hrel
    rename World => wr
    by_cases hlt : k < n
    · have d1 : decide ((k : Int) < (n : Int)) = true := by simp; omega
      have hkd : k < l.length := by rw [HX.out.1]; exact hlt
      obtain ⟨b, off, rfl, hcs⟩ := (HX.out.2.grown hK) (by intro e; rw [e] at hkd; simp at hkd)
      obtain ⟨x, hx⟩ : ∃ x, x = l[k] := ⟨_, rfl⟩
      have c0 : wr.cell? ⟨b, off + k, none⟩ = some (.bool x) := by rw [hx]; exact hcs k hkd
      have hxq : l[k]? = some x := by rw [hx]; exact List.getElem?_eq_getElem hkd
      have hrep : List.replicate (n - k) (0 : UInt8) = 0 :: List.replicate (n - (k + 1)) 0 := by
        rw [show n - k = (n - (k + 1)) + 1 by omega, List.replicate_succ]
      have hlen : ((l.take k).map bitD).length = k := by rw [List.length_map, List.length_take]; omega
      rw [hrep] at hB
      have h1 := hB.set k (.int .u8 48)
      rw [show (Value.int .u8 48) = .int .u8 (((48 : UInt8).toNat : Nat) : Int) from rfl, bits_set _ _ _ _ k hlen] at h1
      have c1 : (wr.setCell ⟨w.heap.size, k, none⟩ (.int .u8 48)).cell? ⟨w.heap.size, k, none⟩ = some (.int .u8 48) := by
        have h := h1.cell k
        simp only [Lib.byteCells, List.map_append, List.map_cons] at h
        simp only [List.getElem?_toArray] at h
        rw [List.getElem?_append_right (by rw [List.length_map, hlen]; exact Nat.le_refl _), List.length_map, hlen, Nat.sub_self] at h
        exact h
      have c2 : wr.cell? ⟨w.heap.size, k, none⟩ = some (.int .u8 0) := by
        have h := hB.cell k
        simp only [Lib.byteCells, List.map_append, List.map_cons] at h
        simp only [List.getElem?_toArray] at h
        rw [List.getElem?_append_right (by rw [List.length_map, hlen]; exact Nat.le_refl _), List.length_map, hlen, Nat.sub_self] at h
        exact h
      have f1 := h1.frozen k
      have f2 := hB.frozen k
      have HH := Lib.hid (And.intro h1 (And.intro hxq (And.intro hlen (And.intro hk hK))))
      clear hcs hx hkd hB h1 hrep hlen hxq hK hk
      cases x with
      | true =>
        go_wp2_with fail
        go_roundw
        case rel =>
          obtain ⟨h1, hxq, hlen, hk, hK⟩ := HH.out
          refine ⟨k + 1, by omega, rfl, ?_, grown_cell (grown_cell hK _ (Nat.le_refl _)) _ (Nat.le_refl _)⟩
          have h2 := h1.set k (.int .u8 49)
          rw [show (Value.int .u8 49) = .int .u8 (((49 : UInt8).toNat : Nat) : Int) from rfl, bits_set _ _ _ _ k hlen] at h2
          rw [List.take_add_one, hxq, List.map_append, List.append_assoc]
          exact h2
        case measure => simp [intOf]; omega
      | false =>
        go_wp2_with fail
        go_roundw
        case rel =>
          obtain ⟨h1, hxq, hlen, hk, hK⟩ := HH.out
          refine ⟨k + 1, by omega, rfl, ?_, grown_cell hK _ (Nat.le_refl _)⟩
          rw [List.take_add_one, hxq, List.map_append, List.append_assoc]
          exact h1
        case measure => simp [intOf]; omega
    · have d1 : decide ((k : Int) < (n : Int)) = false := by simp; omega
      obtain rfl : k = n := by omega
      rw [Nat.sub_self, List.replicate_zero, List.append_nil, List.take_of_length_le (by rw [HX.out.1]; exact Nat.le_refl _)] at hB
      have hcv := str_ownS (c := k) (own_of_blk (n := k) hB (Nat.le_refl _) (by simp [Lib.byteCells, HX.out.1]) (by unfold maxLen; omega)) rfl
      have HK := Lib.hid hK
      clear hB hK
      go_wp2_with fail
      go_ret
      exact ⟨rfl, HK.out⟩
end Go.Proofs.YtonkdcbmmdhjgaaGreatDoor
