/-
  script.readPowers.
-/
import Derived.Test.YtonkdcbmmdhjgaaGreatDoorScG
import Derived.Test.YtonkdcbmmdhjgaaGreatDoorScD
namespace Go.Proofs.YtonkdcbmmdhjgaaGreatDoor
open Go.RowKit Go.Shelf

attribute [local go_sem] Oper.semAt_some

/-- What readPowers leaves. -/
def PowPost (w : World) (l : List UInt8) (e : Ending) (w' : World) : Prop := w.grownBy w' none ∧ match powS l with
  | some ns => ∃ A c, e = .returned (.tuple #[.slice A ns.length c, .bool true]) ∧ w'.ownsRow w.heap.size 3 1 (.slice A ns.length c) ns.length (ns.map (Value.int .i64))
  | none => ∃ A n c, e = .returned (.tuple #[.slice A n c, .bool false])
theorem int_infoS : (Tryz.prog.info? 3).map (fun i => (i.zero, i.size, i.bytes)) = some (some (.int .i64 0), 1, 8) := by kernel_rfl
theorem mem_sum : ∀ (l : List Nat) (a : Nat), a ∈ l → a ≤ l.sum
  | b :: l, a, h => by
    rw [List.sum_cons]
    rcases List.mem_cons.1 h with rfl | h
    · omega
    · have := mem_sum l a h; omega
theorem piece_len {c : UInt8} {l p : List UInt8} (h : p ∈ splitP c l) : p.length ≤ l.length := by
  have h1 := joinP_len c (splitP c l) (splitP_ne c l)
  rw [joinP_splitP] at h1
  have h2 := mem_sum ((splitP c l).map (·.length + 1)) (p.length + 1) (List.mem_map.2 ⟨p, h, rfl⟩)
  omega
theorem results_cells2 {fn : Func} {s u : Tmp} {t t' : TypeId} (h : fn.results = #[.cell s t, .cell u t']) (tmps : Array Value) (P : Program) (w : World) (p q : Addr) (v x : Value)
    (hp : tmps.getD s undef = .pointer (some p)) (hq : tmps.getD u undef = .pointer (some q)) (hl : (loadVar t p).run P w = .ok v w) (hm : (loadVar t' q).run P w = .ok x w) : (results fn tmps).run P w = .ok (.tuple #[v, x]) w := by
  have h1 : tmps[s]?.getD undef = .pointer (some p) := by simpa using hp
  have h2 : tmps[u]?.getD undef = .pointer (some q) := by simpa using hq
  simp [results, h, h1, h2, asAddr, hl, hm]
theorem load_ints {w : World} {p : Addr} {A : Option Addr} {n c : Nat} (h : w.cell? p = some (.slice A n c)) : (loadVar 25 p).run Tryz.prog w = .ok (.slice A n c) w := by
  go_simp
theorem load_boolS {w : World} {p : Addr} {b : Bool} (h : w.cell? p = some (.bool b)) : (loadVar 4 p).run Tryz.prog w = .ok (.bool b) w := by
  go_simp
theorem keeps_ownS {W W' : World} {base size n : Nat} {e : TypeId} {v : Value} {xs : List Value} (h : W.ownsRow base e size v n xs) (hg : W.grownBy W' v.ownBlock) : KeepsOthers W W' :=
  KeepsOthers.of_grownBy hg (fun j o e => by
    rcases h.2 with ⟨rfl, _⟩ | ⟨g, cap, cur, rfl, _, hh, _⟩
    · cases e
    · have := Option.some.inj e
      simp only at this
      subst this
      intro ho
      rw [hh] at ho
      cases ho
      rfl)
theorem numsS_app : ∀ (a : List (List UInt8)) (ns : List Int) (b : List (List UInt8)), numsS a = some ns → numsS (a ++ b) = (numsS b).map fun x => ns ++ x
  | [], ns, b, h => by simp [numsS] at h; subst h; simp
  | p :: r, ns, b, h => by
    rw [numsS] at h
    cases hp : numS p with
    | none => rw [hp] at h; cases h
    | some v =>
      rw [hp] at h
      obtain ⟨ns', h', rfl⟩ := Option.map_eq_some_iff.1 h
      rw [List.cons_append, numsS, hp, numsS_app r ns' b h']
      cases numsS b <;> simp
theorem numsS_len : ∀ (a : List (List UInt8)) (ns : List Int), numsS a = some ns → ns.length = a.length
  | [], ns, h => by simp [numsS] at h; subst h; rfl
  | p :: r, ns, h => by
    rw [numsS] at h
    cases hp : numS p with
    | none => rw [hp] at h; cases h
    | some v =>
      rw [hp] at h
      obtain ⟨ns', h', rfl⟩ := Option.map_eq_some_iff.1 h
      simp [numsS_len r ns' h']
theorem own_fromS {w : World} {base size n c : Nat} {e : TypeId} {A : Option Addr} {xs : List Value} (h : w.ownsRow base e size (.slice A n c) n xs) : ∀ ad, A = some ad → base ≤ ad.block := fun ad ea => by
  subst ea
  exact (h.lt ad.block rfl).1
/-- Between two rounds. -/
def PowI (w : World) (l : List UInt8) (pre : List (List UInt8)) (W : World) : Prop := ∃ v ns, (pre = (splitP 44 l).take pre.length ∧ numsS pre = some ns ∧ ns.length ≤ 7) ∧ w.heap.size + 6 ≤ W.heap.size ∧ Blk W (w.heap.size + 2) 25 #[v] ∧
  W.ownsRow (w.heap.size + 6) 3 1 v ns.length (ns.map (Value.int .i64)) ∧ Blk W w.heap.size 25 #[.slice none 0 0] ∧ Blk W (w.heap.size + 1) 4 #[.bool false] ∧ w.grownBy W none
/-- A round has said no. -/
def PowX (w : World) (l : List UInt8) (c : Code) (_ : List (List UInt8)) (W : World) : Prop := (c = .ret ∧ powS l = none) ∧ Blk W w.heap.size 25 #[.slice none 0 0] ∧ Blk W (w.heap.size + 1) 4 #[.bool false] ∧ w.grownBy W none
section
variable {w : World} {l : List UInt8}
theorem powI_own {B : Nat} (hB : w.heap.size ≤ B) : OwnFrom B (PowI w l) := fun s A C row hs hg hr => by
  obtain ⟨v, ns, h1, hz, h2, h3, h4, h5, h6⟩ := hs
  exact ⟨v, ns, h1, Nat.le_trans hz hg.size, ownFrom_blk (fun _ => _) () A C row h2 hg hr, ownFrom_own (fun _ => _) () A C row h3 hg hr, ownFrom_blk (fun _ => _) () A C row h4 hg hr, ownFrom_blk (fun _ => _) () A C row h5 hg hr, ownFrom_grown hB () A C row h6 hg hr⟩
theorem powX_own {B : Nat} (hB : w.heap.size ≤ B) (c : Code) : OwnFrom B (PowX w l c) := fun s A C row hs hg hr => by
  obtain ⟨h1, h4, h5, h6⟩ := hs
  exact ⟨h1, ownFrom_blk (fun _ => _) () A C row h4 hg hr, ownFrom_blk (fun _ => _) () A C row h5 hg hr, ownFrom_grown hB () A C row h6 hg hr⟩
theorem own_far3 {A C : World} {base e size n : Nat} {v : Value} {xs : List Value} {r : Nat} (h : A.ownsRow base e size v n xs) (hg : A.grownBy C (some r)) (hr : r < base) : C.ownsRow base e size v n xs :=
  own_kept h (Kept.of_grown (F := fun k => k = r) hg fun g e => (Option.some.inj e).symm) fun k hk e => by have := (h.lt k hk).1; omega
theorem powI_far {A C : World} {pre : List (List UInt8)} (hs : PowI w l pre A) (hg : A.grownBy C (some (w.heap.size + 3))) : PowI w l pre C := by
  obtain ⟨v, ns, h1, hz, h2, h3, h4, h5, h6⟩ := hs
  exact ⟨v, ns, h1, Nat.le_trans hz hg.size, h2.grown hg (by simp), own_far3 h3 hg (by omega), h4.grown hg (by simp), h5.grown hg (by simp), grown_fresh h6 hg (by omega)⟩
theorem powX_far {A C : World} {c : Code} {pre : List (List UInt8)} (hs : PowX w l c pre A) (hg : A.grownBy C (some (w.heap.size + 3))) : PowX w l c pre C := by
  obtain ⟨h1, h4, h5, h6⟩ := hs
  exact ⟨h1, h4.grown hg (by simp), h5.grown hg (by simp), grown_fresh h6 hg (by omega)⟩
end
set_option maxRecDepth 100000 in
set_option maxHeartbeats 2000000 in
theorem pow_is (s : ByteArray) (hs : s.size ≤ 100000) (w : World) (he : ScEnv w) : Calls Tryz.prog 27 #[.string s] w (PowPost w s.data.toList) := by
  obtain ⟨l, hl⟩ : ∃ l, l = s.data.toList := ⟨_, rfl⟩
  have hln : l.length = s.size := by rw [hl]; exact Array.length_toList
  obtain ⟨Q, hQ⟩ : ∃ Q, Q = PowPost w l := ⟨_, rfl⟩
  rw [← hl, ← hQ]
  have HQ := Lib.hid hQ
  have HL := Lib.hid (And.intro hl (And.intro hln he))
  clear hQ hl hln he
  by_cases hd : s = ⟨#[45]⟩
  · subst hd
    go_enter Tryz.func27, Tryz.ntmps27
    go_wp2_with fail
    obtain ⟨V, hV⟩ : ∃ V, (w.alloc (.cells #[.slice none 0 0] 25)).alloc (.cells #[.bool true] 4) = V := ⟨_, rfl⟩
    have b0 : Blk V w.heap.size 25 #[.slice none 0 0] := by rw [← hV]; exact (Blk.new w _ _).alloc _
    have b1 : Blk V (w.heap.size + 1) 4 #[.bool true] := by
      have := Blk.new (w.alloc (.cells #[.slice none 0 0] 25)) 4 #[.bool true]
      rw [hV] at this; simpa using this
    have g0 : w.grownBy V none := by rw [← hV]; exact grown_trans (World.grownBy_alloc w _ none) (World.grownBy_alloc _ _ none)
    rw [hV]
    refine bodyPost_ret (results_cells2 rfl _ _ _ ⟨w.heap.size, 0, none⟩ ⟨w.heap.size + 1, 0, none⟩ (.slice none 0 0) (.bool true) rfl rfl (load_ints (b0.cell 0)) (load_boolS (b1.cell 0))) rfl ?_
    rw [HQ.out]
    refine ⟨g0, ?_⟩
    rw [HL.out.1]
    exact ⟨none, 0, rfl, World.ownsRow_nil _ _ _ _⟩
  have hd3 : (s.toList == [45]) = false := lit_neB (a := [45]) hd
  have hdl : ¬ l = [45] := fun e => hd ((dash_iff s).2 (by rw [← HL.out.1]; exact e))
  have HD := Lib.hid hdl
  clear hd hdl
  refine (callsIn_wide (n := 6)).1 ?_
  refine callsIn_of_wp_marks Tryz.func27 rfl trivial ?_ rfl
  simp only [Tryz.ntmps27, List.size_toArray, List.length_cons, List.length_nil, Nat.reduceAdd, Nat.reduceSub, Array.replicate_succ, Array.replicate_zero, List.push_toArray, List.append_toArray, List.nil_append, List.cons_append]
  gi_wp2
  refine ⟨trivial, ?_⟩
  refine (callsIn_wide.2 (split_is _ _ _)).mono ?_
  rintro e w1 ⟨rfl, rfl⟩
  gi_wp2
  obtain ⟨i0, hi0, hz0, hz1, hz2⟩ := info_parts int_infoS
  have HI0 := Lib.hid (And.intro hi0 (And.intro hz0 (And.intro hz1 hz2)))
  clear hi0 hz0 hz1 hz2
  obtain ⟨W0, hW0⟩ : ∃ W0, ((((((w.alloc (.cells #[.slice none 0 0] 25)).alloc (.cells #[.bool false] 4)).alloc (.cells #[.slice none 0 0] 25)).alloc (.cells #[.string s] 9)).alloc (.cells #[.string ⟨#[44]⟩] 9)).alloc (.cells #[.int .i64 0] 3)) = W0 := ⟨_, rfl⟩
  have hsz : W0.heap.size = w.heap.size + 6 := by rw [← hW0]; simp
  have hg0 : w.grownBy W0 none := by rw [← hW0]; exact grown_trans (grown_trans (grown_trans (grown_trans (grown_trans (World.grownBy_alloc w _ none) (World.grownBy_alloc _ _ none)) (World.grownBy_alloc _ _ none)) (World.grownBy_alloc _ _ none)) (World.grownBy_alloc _ _ none)) (World.grownBy_alloc _ _ none)
  have b0 : Blk W0 w.heap.size 25 #[.slice none 0 0] := by rw [← hW0]; exact (((((Blk.new w _ _).alloc _).alloc _).alloc _).alloc _).alloc _
  have b1 : Blk W0 (w.heap.size + 1) 4 #[.bool false] := by
    have := Blk.new (w.alloc (.cells #[.slice none 0 0] 25)) 4 #[.bool false]
    simp only [World.size_alloc] at this
    rw [← hW0]; exact (((this.alloc _).alloc _).alloc _).alloc _
  have b2 : Blk W0 (w.heap.size + 2) 25 #[.slice none 0 0] := by
    have := Blk.new ((w.alloc (.cells #[.slice none 0 0] 25)).alloc (.cells #[.bool false] 4)) 25 #[.slice none 0 0]
    simp only [World.size_alloc] at this
    rw [← hW0]; exact ((this.alloc _).alloc _).alloc _
  have b3 : Blk W0 (w.heap.size + 3) 9 #[.string (strB l)] := by
    have := Blk.new (((w.alloc (.cells #[.slice none 0 0] 25)).alloc (.cells #[.bool false] 4)).alloc (.cells #[.slice none 0 0] 25)) 9 #[.string s]
    simp only [World.size_alloc] at this
    rw [← hW0, HL.out.1, strB_of]; exact (this.alloc _).alloc _
  have b4 : Blk W0 (w.heap.size + 4) 9 #[.string ⟨#[44]⟩] := by
    have := Blk.new ((((w.alloc (.cells #[.slice none 0 0] 25)).alloc (.cells #[.bool false] 4)).alloc (.cells #[.slice none 0 0] 25)).alloc (.cells #[.string s] 9)) 9 #[.string ⟨#[44]⟩]
    simp only [World.size_alloc] at this
    rw [← hW0]; exact this.alloc _
  have b5 : Blk W0 (w.heap.size + 5) 3 #[.int .i64 0] := by
    have := Blk.new (((((w.alloc (.cells #[.slice none 0 0] 25)).alloc (.cells #[.bool false] 4)).alloc (.cells #[.slice none 0 0] 25)).alloc (.cells #[.string s] 9)).alloc (.cells #[.string ⟨#[44]⟩] 9)) 3 #[.int .i64 0]
    simp only [World.size_alloc] at this
    rw [← hW0]; exact this
  have hI0 : PowI w l [] W0 := ⟨.slice none 0 0, [], ⟨rfl, rfl, by simp⟩, by omega, b2, World.ownsRow_nil _ _ _ _, b0, b1, hg0⟩
  rw [hW0]
  have HLL : l.length ≤ 1000000 := by have := HL.out.2.1; omega
  have HB := Lib.hid (And.intro b3 (And.intro b4 b5))
  clear hW0 b0 b1 b2 b3 b4 b5
  refine wpIn_rangeFunc_toldB (b := w.heap.size + 3) rfl (by omega) (gf := 67) (lb := #[.pointer (some ⟨w.heap.size + 1 + 1 + 1 + 1, 0, none⟩), .pointer (some ⟨w.heap.size + 1 + 1 + 1, 0, none⟩), .pointer (some ⟨w.heap.size + 1 + 1 + 1 + 2, 0, none⟩)]) rfl trivial (enters_of Tryz.func67 (by kernel_rfl) rfl)
    (split_seq 5 (by omega) (w.heap.size + 3) 44 l HLL W0 HB.out.1 HB.out.2.1 HB.out.2.2) (fun h1 h2 => KpC.trans h1 h2)
    (fun x W l o o' hl ho hc _ => KpC.put ho hc) (fun _ _ _ _ _ _ h => h) (Below.refl _ _) (fun _ => rfl) (by omega)
    (PowI w l) (PowX w l) (powI_own (by omega)) (powX_own (by omega)) (fun _ _ _ h g => powI_far h g) (fun _ _ _ _ h g => powX_far h g) hI0
    (fun pre x a' W => a' = { tmps := #[.string s, undef, .pointer (some ⟨w.heap.size, 0, none⟩), .pointer (some ⟨w.heap.size + 1, 0, none⟩), .pointer (some ⟨w.heap.size + 1 + 1, 0, none⟩), .string (strB x), undef, undef, .string s, .bool false, .string s, .func (.func 67) #[] #[.pointer (some ⟨w.heap.size + 1 + 1 + 1 + 1, 0, none⟩), .pointer (some ⟨w.heap.size + 1 + 1 + 1, 0, none⟩), .pointer (some ⟨w.heap.size + 1 + 1 + 1 + 2, 0, none⟩)], .string (strB x), undef, undef, undef, undef, undef, undef, undef, undef, undef, undef, undef, undef, undef, undef, undef, undef, undef], defers := [] } ∧ (splitP 44 l)[pre.length]? = some x)
    (fun pre x a' => ownFrom_pure _) ?assign ?body ?done ?stop
  case assign =>
    rintro l0 pre x W K hI hx hK
    have HK := Lib.hid (hK _ W ((keeps_grown (World.grownBy.refl W none)).from _) (KpC.grown (World.grownBy.refl W none) (by simp)) hI ⟨rfl, hx⟩)
    clear hK hI hx
    simp only [strE]
    gi_wp2
    exact HK.out
  case body =>
    rintro l0 pre x a' W hl0 hl1 ⟨v, ns, ⟨h1, h2, h3⟩, hzW, q2, q3, q0, q1, qg⟩ ⟨rfl, hx⟩
    obtain ⟨A, c, rfl⟩ := own_slice _ q3
    have hxm : x ∈ splitP 44 l := List.mem_of_getElem? hx
    have hxl := piece_len hxm
    have hlen := numsS_len _ _ h2
    have hz : (strB x).size = x.length := strB_size x
    have HN := Lib.hid (show Calls Tryz.prog 25 #[.string (strB x)] W fun e w' => e = .returned (.tuple #[.int .i64 (numV x), .bool (numOk x)]) ∧ W.grownBy w' none by
      have := number_is (strB x) (by rw [hz]; have := HL.out.2.1; omega) W (HL.out.2.2.grown qg)
      rwa [strB_list] at this)
    obtain ⟨n, hn⟩ : ∃ n, n = ns.length := ⟨_, rfl⟩
    have hpre : splitP 44 l = pre ++ x :: (splitP 44 l).drop (pre.length + 1) := by
      obtain ⟨hlt, e⟩ := List.getElem?_eq_some_iff.1 hx
      conv => lhs; rw [← List.take_append_drop pre.length (splitP 44 l)]
      rw [← h1, List.drop_eq_getElem_cons hlt, e]
    have hpre2 : pre ++ [x] = (splitP 44 l).take (pre ++ [x]).length := by
      rw [List.length_append, List.length_singleton, List.take_add_one, ← h1, hx]; rfl
    rw [← hn] at q3 q2 h3
    have HP := Lib.hid (And.intro h2 (And.intro hn (And.intro hpre hpre2)))
    obtain ⟨S, hS⟩ : ∃ S, S = strB x := ⟨_, rfl⟩
    obtain ⟨V, hV⟩ : ∃ V, V = numV x := ⟨_, rfl⟩
    obtain ⟨K, hK⟩ : ∃ K, K = numOk x := ⟨_, rfl⟩
    rw [← hS, ← hV, ← hK] at HN
    rw [← hS]
    have HK := Lib.hid (And.intro hV (And.intro hK (And.intro q0 (And.intro q1 (And.intro q2 (And.intro q3 qg))))))
    clear h1 h2 hlen hn hpre hpre2 hz hS hV hK hx hxm hxl q0 q1 q2 q3 qg
    gi_wp2
    refine ⟨trivial, (CallsIn.inRound l0 (callsIn_wide.2 HN.out)).mono ?_⟩
    rintro e w2 ⟨rfl, k2⟩
    obtain ⟨hV, hK, q0, q1, q2, q3, qg⟩ := HK.out
    have r0 := q0.grown k2 (by simp)
    have r1 := q1.grown k2 (by simp)
    have r2 := q2.grown k2 (by simp)
    have r3 := own_kept q3 (Kept.of_grown (F := fun _ => False) k2 fun _ e => by cases e) (fun _ _ h => h)
    have rg := grown_trans qg k2
    have c0 : w2.cell? ⟨w.heap.size, 0, none⟩ = some (.slice none 0 0) := r0.cell 0
    have c1 : w2.cell? ⟨w.heap.size + 1, 0, none⟩ = some (.bool false) := r1.cell 0
    have c2 : w2.cell? ⟨w.heap.size + 1 + 1, 0, none⟩ = some (.slice A n c) := r2.cell 0
    have f0 := r0.frozen 0
    have f1 := r1.frozen 0
    have f2 : w2.frozen? ⟨w.heap.size + 1 + 1, 0, none⟩ = false := r2.frozen 0
    have HR := Lib.hid (And.intro r0 (And.intro r1 (And.intro r2 (And.intro r3 rg))))
    have HG := Lib.hid k2
    clear hV q0 q1 q2 q3 qg r0 r1 r2 r3 rg k2
    have hfail : powS l = none → ∃ V, V = (w2.setCell ⟨w.heap.size, 0, none⟩ (.slice none 0 0)).setCell ⟨w.heap.size + 1, 0, none⟩ (.bool false) ∧ KeepsFrom W0.heap.size W V ∧ PowX w l .ret (pre ++ [x]) V := fun hno => by
      obtain ⟨r0, r1, r2, r3, rg⟩ := HR.out
      refine ⟨_, rfl, (((keeps_grown HG.out).trans (KeepsOthers.setCell _ _ _)).trans (KeepsOthers.setCell _ _ _)).from _, ⟨rfl, hno⟩, ?_, ?_, grown_cell (grown_cell rg _ (Nat.le_refl _)) _ (by omega)⟩
      · exact (r0.set 0 (.slice none 0 0)).far (by simp) _
      · exact (r1.far (by simp) _).set 0 (.bool false)
    have HF := Lib.hid hfail
    clear hfail
    cases K with
    | false =>
      have HNo := Lib.hid (show powS l = none by
        unfold powS
        rw [if_neg HD.out]
        have h0 : numS x = none := by
          have := hK; unfold numOk at this; cases h : numS x with
          | none => rfl
          | some v => rw [h] at this; cases this
        rw [HP.out.2.2.1, numsS_app _ _ _ HP.out.1, numsS, h0]; rfl)
      clear hK
      gi_wp2
      obtain ⟨V2, rfl, hk, hx⟩ := HF.out HNo.out
      exact ⟨hk, hx⟩
    | true =>
      have hv : numS x = some V := by
        have h1 := hK; unfold numOk at h1
        have h2 := HK.out.1; unfold numV at h2
        cases h : numS x with
        | none => rw [h] at h1; cases h1
        | some u => rw [h] at h2; simp at h2; rw [h2]
      by_cases h7 : n = 7
      · have d7 : ((n : Int) == 7) = true := by simp; omega
        have d8 : (n : Int) = 7 := by omega
        have HNo := Lib.hid (show powS l = none by
          unfold powS
          rw [if_neg HD.out, HP.out.2.2.1, numsS_app _ _ _ HP.out.1, numsS, hv]
          cases numsS ((splitP 44 l).drop (pre.length + 1)) with
          | none => rfl
          | some t =>
            simp only [Option.map_some]
            rw [if_neg (by have := HP.out.2.1; simp only [List.length_append, List.length_cons]; omega)])
        clear hK hv
        gi_wp2
        obtain ⟨V2, rfl, hk, hx⟩ := HF.out HNo.out
        exact ⟨hk, hx⟩
      · have d7 : ((n : Int) == 7) = false := by simp; omega
        have d8 : ¬ (n : Int) = 7 := by omega
        have hafter : ∀ W3, (w2.alloc (.cells #[.int .i64 V] 3)).grownBy W3 (Value.slice A n c).ownBlock → W3.cell? ⟨w.heap.size + 1 + 1, 0, none⟩ = some (.slice A n c) ∧ W3.frozen? ⟨w.heap.size + 1 + 1, 0, none⟩ = false := fun W3 h => by
          have hb3 : Blk W3 (w.heap.size + 2) 25 #[.slice A n c] := (HR.out.2.2.1.alloc _).grown h (fun e => by
            obtain ⟨a, e1, e2⟩ := own_at e.symm
            have := own_fromS HR.out.2.2.2.1 a e1
            omega)
          exact ⟨hb3.cell 0, hb3.frozen 0⟩
        have HA9 := Lib.hid hafter
        have HO := Lib.hid (HR.out.2.2.2.1.alloc (.cells #[.int .i64 V] 3))
        have HV := Lib.hid hv
        have hsz2 : w.heap.size + 6 ≤ w2.heap.size := Nat.le_trans hzW HG.out.size
        clear hK hv hafter
        gi_wp2_with (gi_at_builtin; refine wpListIn_push_one _ rfl _ _ 25 rfl (w.heap.size + 6) 3 i0 _ 8 Tryz.underlying25 HI0.out.1 HI0.out.2.1 HI0.out.2.2.1 HI0.out.2.2.2 rfl (.slice A n c) n _ rfl HO.out ⟨w2.heap.size, 0, none⟩ 1 (.int .i64 V) rfl (Blk.cell (Blk.new _ _ _) 0) rfl (by omega) (by omega) (by simp only [World.size_alloc]; omega) ?_; intro A' c' w3 hown3 hg3 hat3; have q3 := (HA9.out w3 hg3).1; have q4 := (HA9.out w3 hg3).2)
        obtain ⟨r0, r1, r2, r3, rg⟩ := HR.out
        have hb : ∀ g, (Value.slice A n c).ownBlock = some g → w.heap.size + 6 ≤ g := fun g e => by
          obtain ⟨a, e1, e2⟩ := own_at e
          have := own_fromS r3 a e1
          omega
        have ga := World.grownBy_alloc w2 (.cells #[.int .i64 V] 3) none
        have s0 := (r0.grown ga (by simp)).grown hg3 (fun e => by have := hb _ e.symm; omega)
        have s1 := (r1.grown ga (by simp)).grown hg3 (fun e => by have := hb _ e.symm; omega)
        have s2 := (r2.grown ga (by simp)).grown hg3 (fun e => by have := hb _ e.symm; omega)
        have sg : w.grownBy w3 none := by
          have h1 := grown_trans rg ga
          cases hob : (Value.slice A n c).ownBlock with
          | none => rw [hob] at hg3; exact grown_trans h1 hg3
          | some g => rw [hob] at hg3; have := hb g hob; exact grown_fresh h1 hg3 (by omega)
        have hlen := HP.out.2.1
        refine ⟨((((keeps_grown HG.out).trans (KeepsOthers.alloc _ _)).trans (keepsOwn HO.out hg3)).trans (KeepsOthers.setCell _ _ _)).from _, ?_, ?_⟩
        · refine (KpC.grown HG.out (by simp)).trans ((KpC.grown ga (by simp)).trans ((KpC.grown hg3 (fun r e => by have := hb r e; omega)).trans (KpC.grown (gset _ _ _ _) (fun r e => by have := Option.some.inj e; omega))))
        · refine ⟨.slice A' (n + 1) c', ns ++ [V], ⟨HP.out.2.2.2, ?_, ?_⟩, ?_, ?_, ?_, s0.far (by simp only; omega) _, s1.far (by simp only; omega) _, grown_cell sg _ (by omega)⟩
          · rw [numsS_app _ _ _ HP.out.1, numsS, HV.out]; rfl
          · rw [List.length_append, List.length_singleton, ← hlen]
            have := HP.out.2.1
            omega
          · simp only [World.setCell]
            have := hg3.size
            simp at this ⊢
            omega
          · exact s2.set 0 _
          · have h9 := own_kept hown3 (Kept.of_grown (F := fun k => k = w.heap.size + 2) (gset w3 (w.heap.size + 2) 0 (.slice A' (n + 1) c')) (fun g e => (Option.some.inj e).symm)) (fun k hk e => by
              have := (hown3.lt k hk).1
              omega)
            rw [List.length_append, List.length_singleton, ← hlen, List.map_append]
            exact h9
  case done =>
    rintro Dd xs W hD hS ⟨v, ns, ⟨h1, h2, h3⟩, hzW, q2, q3, q0, q1, qg⟩ hK
    obtain ⟨A, c, rfl⟩ := own_slice _ q3
    have hp : powS l = some ns := by
      unfold powS
      rw [if_neg HD.out]
      rw [hS] at h2
      rw [h2]
      simp only []
      rw [if_pos h3]
    obtain ⟨n, hn⟩ : ∃ n, n = ns.length := ⟨_, rfl⟩
    rw [← hn] at q2 q3
    have c0 : W.cell? ⟨w.heap.size, 0, none⟩ = some (.slice none 0 0) := q0.cell 0
    have c1 : W.cell? ⟨w.heap.size + 1, 0, none⟩ = some (.bool false) := q1.cell 0
    have c2 : W.cell? ⟨w.heap.size + 1 + 1, 0, none⟩ = some (.slice A n c) := q2.cell 0
    have f0 := q0.frozen 0
    have f1 := q1.frozen 0
    have HB := Lib.hid (And.intro hp (And.intro hn (And.intro q3 (And.intro q0 (And.intro q1 (And.intro qg (And.intro hK hD)))))))
    clear hp hn q0 q1 q2 q3 qg hK hD h1 h2 h3 hS
    gi_wp2
    obtain ⟨hp, hn, q3, q0, q1, qg, hK, hD⟩ := HB.out
    have g1 := gset W w.heap.size 0 (.slice A n c)
    have g2 := gset (W.setCell ⟨w.heap.size, 0, none⟩ (.slice A n c)) (w.heap.size + 1) 0 (.bool true)
    have s0 : Blk ((W.setCell ⟨w.heap.size, 0, none⟩ (.slice A n c)).setCell ⟨w.heap.size + 1, 0, none⟩ (.bool true)) w.heap.size 25 #[.slice A n c] := (q0.set 0 (.slice A n c)).far (by simp) _
    have s1 : Blk ((W.setCell ⟨w.heap.size, 0, none⟩ (.slice A n c)).setCell ⟨w.heap.size + 1, 0, none⟩ (.bool true)) (w.heap.size + 1) 4 #[.bool true] := (q1.far (by simp) _).set 0 (.bool true)
    have s3 := own_far3 (own_far3 q3 g1 (by omega)) g2 (by omega)
    have sg : w.grownBy ((W.setCell ⟨w.heap.size, 0, none⟩ (.slice A n c)).setCell ⟨w.heap.size + 1, 0, none⟩ (.bool true)) none := grown_cell (grown_cell qg _ (Nat.le_refl _)) _ (by omega)
    have hK2 : ((W.setCell ⟨w.heap.size, 0, none⟩ (.slice A n c)).setCell ⟨w.heap.size + 1, 0, none⟩ (.bool true)).heap[Dd]? = some (.deferred (some [])) := by
      have hlt := (Array.getElem?_eq_some_iff.1 hK).1
      rw [g2.block Dd (by simpa [World.setCell] using hlt) (by intro e; have := Option.some.inj e; omega), g1.block Dd hlt (by intro e; have := Option.some.inj e; omega)]
      exact hK
    generalize (W.setCell ⟨w.heap.size, 0, none⟩ (.slice A n c)).setCell ⟨w.heap.size + 1, 0, none⟩ (.bool true) = W5 at *
    have gp := grownBy_putObj' W5 Dd (.deferred none)
    refine ⟨by simp, .inl ⟨_, _, rfl, run_takeDeferred hK2, ?_⟩⟩
    have t0 := s0.grown gp (by intro e; have := Option.some.inj e; omega)
    have t1 := s1.grown gp (by intro e; have := Option.some.inj e; omega)
    refine ⟨_, results_cells2 rfl _ _ _ ⟨w.heap.size, 0, none⟩ ⟨w.heap.size + 1, 0, none⟩ (.slice A n c) (.bool true) rfl rfl (load_ints (t0.cell 0)) (load_boolS (t1.cell 0)), ?_⟩
    rw [HQ.out]
    refine ⟨grown_fresh sg gp (by omega), ?_⟩
    rw [hp]
    simp only []
    rw [← hn]
    refine ⟨A, c, rfl, ?_⟩
    have h7 := own_same s3 (cells_same gp (fun r e => by cases e; exact ⟨_, hK2, rfl⟩))
    exact ⟨h7.1, h7.2.imp id fun ⟨g, cap, cur, e1, e2, e3⟩ => ⟨g, cap, cur, e1, by omega, e3⟩⟩
  case stop =>
    rintro Dd c pre W hD hk ⟨⟨rfl, hno⟩, q0, q1, qg⟩ hK
    gi_wp2
    have gp := grownBy_putObj' W Dd (.deferred none)
    refine ⟨by simp, .inl ⟨_, _, rfl, run_takeDeferred hK, ?_⟩⟩
    have t0 := q0.grown gp (by intro e; have := Option.some.inj e; omega)
    have t1 := q1.grown gp (by intro e; have := Option.some.inj e; omega)
    refine ⟨_, results_cells2 rfl _ _ _ ⟨w.heap.size, 0, none⟩ ⟨w.heap.size + 1, 0, none⟩ (.slice none 0 0) (.bool false) rfl rfl (load_ints (t0.cell 0)) (load_boolS (t1.cell 0)), ?_⟩
    rw [HQ.out]
    exact ⟨grown_fresh qg gp (by omega), by rw [hno]; exact ⟨none, 0, 0, rfl⟩⟩
end Go.Proofs.YtonkdcbmmdhjgaaGreatDoor
