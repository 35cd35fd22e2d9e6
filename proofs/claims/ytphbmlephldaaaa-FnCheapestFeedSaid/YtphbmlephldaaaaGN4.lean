/- Plain facts. -/
import Derived.Test.YtphbmlephldaaaaGN38
import Derived.ProofKit
import Derived.ReadAgain
import Derived.Deep.Slices
import Derived.Deep.Fields
import Derived.Lib.SmallJoins
import Derived.Test.YtphbmlephldaaaaGN20
import Derived.Laws.CopyOwn
import Derived.Deep.RegionLaw
import Derived.Deep.DeepCutAuto
/- How a law's statement is closed: what was read before the call reads so behind it, as nothing older has changed. -/
namespace Go.Proofs.Ytphbmlephldaaaa
open Go.ChangeShapes Go.WideShapes Go.ChangeAt Go.RowKit Go.Deep Go.Joins

theorem Try.own : ownKnob Try.prog.godebug = none := by kernel_rfl
theorem Try.kids : Kids Try.prog (· < Try.prog.types.size) := kids_rows (by kernel_rfl) (by kernel_rfl)
theorem Try.full : ∀ t e, t < Try.prog.types.size → Try.prog.underlying t = some (.slice e) → 0 < Try.prog.cellsOf e := slices_full_of Try.prog (by kernel_rfl)

section
variable {H : Type} {enc : TypeId × Value → H} {P : Program}
theorem trodAll_carry {w w' : World} {base : Nat} {spare : Nat → Bool} {held : Bool} : ∀ {ts : List TypeId} {vs : List Value} {ds : List (DataW H)} {ps : List MemPlace},
    DataW.TrodAll enc P w base spare held ts vs ds ps → (∀ p ∈ ps, w.sameAt w' p) → DataW.TrodAll enc P w' base spare held ts vs ds ps
  | [], [], [], _, h, _ => h
  | _ :: _, _ :: _, _ :: _, _, ⟨p, q, ⟨n, h1⟩, h2, e⟩, hs =>
    ⟨p, q, ⟨n, DataW.trod_carry n _ _ _ h1 (fun x hx => hs x (by rw [e]; exact List.mem_append_left _ hx))⟩,
      trodAll_carry h2 (fun x hx => hs x (by rw [e]; exact List.mem_append_right _ hx)), e⟩

theorem law_post {f : Func} {s : ChangeSpec} {tb : TypeId} {W W' : World} {args : Array Value} {ds gs : List (DataW H)} {before : List MemPlace}
    (K : Kids P (· < P.types.size)) (hz : ∀ t e, t < P.types.size → P.underlying t = some (.slice e) → 0 < P.cellsOf e)
    (hts : ∀ t ∈ f.params.toList, t < P.types.size) (hv : s.vars = [])
    (hrt : f.resultTypes = #[tb]) (htb : P.underlying tb = some .bool)
    (hW : DataW.Whole enc P f.params.toList s.vars false W args.toList ds gs before)
    (hr : (s.fn H (ds ++ gs)).results = [.lit (.bool true)]) (ha : (s.fn H (ds ++ gs)).args = ds) (hvs : (s.fn H (ds ++ gs)).vars = [])
    (hb : Below W.heap.size W W') : s.post enc P f false true false false W args (.bool true) W' := by
  have hlt : ∀ p ∈ before, p.block < W.heap.size := fun p hp => hW.lt p hp
  have hW' := hW
  obtain ⟨p, q, hA, hV, e, hfz, hnd⟩ := hW
  rw [hv] at hV
  have hq : q = [] := by
    cases gs with
    | nil => exact hV
    | cons _ _ => exact absurd hV (by simp [DataW.TrodVars])
  subst hq
  rw [List.append_nil] at e
  subst e
  refine ⟨ds, gs, before, [], before, [], hW', ?_, ?_, ?_, hb.frame _, fun h => by cases h⟩
  · rw [hr, hrt]
    exact trodAll_mk1 (shut_bool htb true)
  · rw [ha]
    exact trodAll_carry (DataW.TrodAll.respare K hz hts hA (fun x hx => by simpa using hlt x hx)) (fun x hx => hb.same (hlt x hx))
  · rw [hv, hvs]
    rfl
end

/-- A row of numbers that came in: its cells, wherever they lie. -/
def ArgInts (w : World) (v : Value) (xs : List Int) : Prop :=
  ∃ (A : Option Addr) (c : Nat), v = .slice A xs.length c ∧ xs.length ≤ c ∧ c ≤ maxLen ∧ ∀ k (hk : k < xs.length), ∃ g o, A = some ⟨g, o, none⟩ ∧ g < w.heap.size ∧ w.cell? ⟨g, o + k, none⟩ = some (.int .i64 xs[k])

/-- A row of pipes that came in. -/
def ArgPipes (w : World) (v : Value) (ps : List Pp) : Prop :=
  ∃ (A : Option Addr) (c : Nat), v = .slice A ps.length c ∧ ps.length ≤ c ∧ c ≤ maxLen ∧ ∀ k (hk : k < ps.length), ∃ g o, A = some ⟨g, o, none⟩ ∧ g < w.heap.size ∧
    w.cell? ⟨g, o + k * 5, none⟩ = some (.int .i64 ps[k].fr) ∧ w.cell? ⟨g, o + k * 5 + 1, none⟩ = some (.int .i64 ps[k].to) ∧ w.cell? ⟨g, o + k * 5 + 2, none⟩ = some (.int .i64 ps[k].le) ∧
    w.cell? ⟨g, o + k * 5 + 3, none⟩ = some (.int .i64 ps[k].mo) ∧ w.cell? ⟨g, o + k * 5 + 4, none⟩ = some (.int .i64 ps[k].co)

/-- A text of bytes that came in. -/
def ArgBytes (w : World) (v : Value) (n : Nat) : Prop :=
  ∃ (A : Option Addr) (c : Nat), v = .slice A n c ∧ n ≤ c ∧ c ≤ maxLen ∧ ∀ k, k < n → ∃ g o x, A = some ⟨g, o, none⟩ ∧ g < w.heap.size ∧ w.cell? ⟨g, o + k, none⟩ = some (.int .u8 x) ∧ 0 ≤ x ∧ x ≤ 255

section
variable {H : Type} {enc : TypeId × Value → H} {w : World} {base : Nat} {spare : Nat → Bool} {held : Bool} {r : Reach} {b0 : Nat}

theorem list_of {α : Type} (d : α) (p : Nat → α → Prop) (n : Nat) (h : ∀ i, i < n → ∃ x, p i x) : ∃ l : List α, l.length = n ∧ ∀ k (hk : k < l.length), p k l[k] := by
  haveI : Inhabited α := ⟨d⟩
  obtain ⟨f, hf⟩ := choose_lt h
  exact ⟨(List.range n).map f, by simp, fun k hk => by simpa using hf k (by simpa using hk)⟩

theorem cell_lt {a : Addr} {v : Value} (h : w.cell? a = some v) : a.block < w.heap.size := by
  rcases Nat.lt_or_ge a.block w.heap.size with hlt | hge
  · exact hlt
  · unfold World.cell? at h
    rw [Array.getElem?_eq_none hge] at h
    cases h
theorem plain_addr {a : Addr} {v : Value} (h : w.cell? (a.add 0) = some v) : ∃ g o, a = ⟨g, o, none⟩ ∧ g < w.heap.size := by
  have h' : w.cell? a = some v := h
  have hl := cell_lt h'
  obtain ⟨g, o, s⟩ := a
  cases s with
  | none => exact ⟨g, o, rfl, hl⟩
  | some s =>
    unfold World.cell? at h'
    split at h' <;> simp at h'
theorem add_plain (g o n : Nat) : (⟨g, o, none⟩ : Addr).add n = ⟨g, o + n, none⟩ := by
  unfold Addr.add
  split
  · next h => subst h; rfl
  · rfl

theorem open_arg_ints {cs : List Value} {fuel : Nat} {x : DataW H × List MemPlace} (h : DataW.trod enc Try.prog w base spare held fuel 40 cs = some x) :
    ∃ v xs, cs = [v] ∧ ArgInts w v xs := by
  rcases open_ints Try.underlying40 Try.underlying3 (by kernel_rfl) h with ⟨rfl, _⟩ | ⟨a, len, cap, zs, rfl, hb, hl, hm, hz, rfl, hc, hw⟩
  · exact ⟨_, [], rfl, none, 0, rfl, Nat.le_refl _, by simp [maxLen], fun k hk => by simp at hk⟩
  · have hlz : len ≤ zs.length := by rw [hz]; split <;> omega
    have ht : (zs.take len).length = len := by simp; omega
    refine ⟨_, zs.take len, rfl, some a, cap, by rw [ht], by omega, hm, fun k hk => ?_⟩
    obtain ⟨g, o, rfl, hg⟩ := plain_addr (hc 0 (by omega))
    refine ⟨g, o, rfl, hg, ?_⟩
    rw [← add_plain, hc k (by omega)]
    simp [List.getD, List.getElem?_eq_getElem (show k < zs.length by omega)]

theorem open_arg_bytes {cs : List Value} {fuel : Nat} {x : DataW H × List MemPlace} (h : DataW.trod enc Try.prog w base spare held fuel 22 cs = some x) :
    ∃ v n, cs = [v] ∧ ArgBytes w v n := by
  rcases open_ints Try.underlying22 Try.underlying5 (by kernel_rfl) h with ⟨rfl, _⟩ | ⟨a, len, cap, zs, rfl, hb, hl, hm, hz, rfl, hc, hw⟩
  · exact ⟨_, 0, rfl, none, 0, rfl, Nat.le_refl _, by simp [maxLen], fun k hk => by omega⟩
  · have hlz : len ≤ zs.length := by rw [hz]; split <;> omega
    refine ⟨_, len, rfl, some a, cap, rfl, by omega, hm, fun k hk => ?_⟩
    obtain ⟨g, o, rfl, hg⟩ := plain_addr (hc 0 (by omega))
    refine ⟨g, o, zs.getD k 0, rfl, hg, ?_, ?_⟩
    · rw [← add_plain]; exact hc k (by omega)
    · have hwf := hw (zs.getD k 0) (by simp [List.getD, List.getElem?_eq_getElem (show k < zs.length by omega)])
      exact bounds_u8 hwf

theorem one_of_cells {P : Program} {t e : TypeId} {v s : Value} (ht : P.underlying t = some (.slice e)) (h : Value.okWide P w r b0 t v) (hc : v.cells.toList = [s]) : v = s := by
  obtain ⟨a, len, cap, rfl⟩ := okWide_slice ht h
  simpa [Value.cells] using hc
theorem five_of {P : Program} {t ti : TypeId} {f0 f1 f2 f3 f4 : Field} {cs : List Value} {fuel : Nat} {x : DataW H × List MemPlace} (hs : P.underlying t = some (.struct #[f0, f1, f2, f3, f4]))
    (hone : oneCellFields P #[f0, f1, f2, f3, f4] = true) (hC : P.cellsOf t = 5) (hi : P.underlying ti = some (.int .i64))
    (t0 : f0.type = ti) (t1 : f1.type = ti) (t2 : f2.type = ti) (t3 : f3.type = ti) (t4 : f4.type = ti)
    (h : DataW.trod enc P w base spare held fuel t cs = some x) : ∃ p : Pp, cs = p.cells := by
  obtain ⟨xs, n, _, _, hl, hxl, hf⟩ := DataW.trod_struct hs h
  rw [hC] at hl
  have key : ∀ (i : Nat) (f : Field), (#[f0, f1, f2, f3, f4] : Array Field)[i]? = some f → f.type = ti → ∃ z : Int, (cs.drop i).take 1 = [.int .i64 z] := by
    intro i f hf1 hft
    obtain ⟨ho, hk⟩ := hone_of hone i f hf1
    have h1 := hf i f hf1
    have hlt : i < xs.length := by rw [hxl]; exact (Array.getElem?_eq_some_iff.1 hf1).1
    rw [ho, hk, hft, List.getElem?_eq_getElem hlt] at h1
    obtain ⟨z, hz, _⟩ := DataW.trod_int hi h1
    exact ⟨z, hz⟩
  obtain ⟨z0, h0⟩ := key 0 f0 rfl t0
  obtain ⟨z1, h1⟩ := key 1 f1 rfl t1
  obtain ⟨z2, h2⟩ := key 2 f2 rfl t2
  obtain ⟨z3, h3⟩ := key 3 f3 rfl t3
  obtain ⟨z4, h4⟩ := key 4 f4 rfl t4
  match cs, hl with
  | [c0, c1, c2, c3, c4], _ =>
    simp at h0 h1 h2 h3 h4
    exact ⟨⟨z0, z1, z2, z3, z4⟩, by simp [Pp.cells, h0, h1, h2, h3, h4]⟩

end

theorem ArgInts.keep {w w' : World} {v : Value} {xs : List Int} (h : ArgInts w v xs) (hb : Below w.heap.size w w') : ArgInts w' v xs := by
  obtain ⟨A, c, hv, h1, h2, hc⟩ := h
  refine ⟨A, c, hv, h1, h2, fun k hk => ?_⟩
  obtain ⟨g, o, hA, hg, c0⟩ := hc k hk
  exact ⟨g, o, hA, Nat.lt_of_lt_of_le hg hb.size, (hb.cell (p := ⟨g, _, none⟩) hg).trans c0⟩
theorem ArgPipes.keep {w w' : World} {v : Value} {ps : List Pp} (h : ArgPipes w v ps) (hb : Below w.heap.size w w') : ArgPipes w' v ps := by
  obtain ⟨A, c, hv, h1, h2, hc⟩ := h
  refine ⟨A, c, hv, h1, h2, fun k hk => ?_⟩
  obtain ⟨g, o, hA, hg, c0, c1, c2, c3, c4⟩ := hc k hk
  exact ⟨g, o, hA, Nat.lt_of_lt_of_le hg hb.size, (hb.cell (p := ⟨g, _, none⟩) hg).trans c0, (hb.cell (p := ⟨g, _, none⟩) hg).trans c1, (hb.cell (p := ⟨g, _, none⟩) hg).trans c2,
    (hb.cell (p := ⟨g, _, none⟩) hg).trans c3, (hb.cell (p := ⟨g, _, none⟩) hg).trans c4⟩
theorem ArgBytes.keep {w w' : World} {v : Value} {n : Nat} (h : ArgBytes w v n) (hb : Below w.heap.size w w') : ArgBytes w' v n := by
  obtain ⟨A, c, hv, h1, h2, hc⟩ := h
  refine ⟨A, c, hv, h1, h2, fun k hk => ?_⟩
  obtain ⟨g, o, x, hA, hg, c0, r⟩ := hc k hk
  exact ⟨g, o, x, hA, Nat.lt_of_lt_of_le hg hb.size, (hb.cell (p := ⟨g, _, none⟩) hg).trans c0, r⟩

end Go.Proofs.Ytphbmlephldaaaa

/- Contracts of the functions of chapter 3 in the program: a row of one number, repeated. -/
namespace Go.Proofs.Ytphbmlephldaaaa
open Go.RowKit

set_option maxHeartbeats 1000000 in
set_option maxRecDepth 20000 in
theorem mul64_any (n : Int) (w : World) (hn : n = 2 ∨ n = 3 ∨ n = 4 ∨ n = 5) :
    Calls Try.prog 161 #[.int .u64 1, .int .u64 n] w fun e w' => e = .returned (.tuple #[.int .u64 0, .int .u64 n]) ∧ w = w' := by
  rcases hn with rfl | rfl | rfl | rfl
  all_goals
    go_enter Try.func161, Try.ntmps161
    go_wp2
    go_ret2
    exact ⟨rfl, rfl⟩

set_option maxHeartbeats 1000000 in
set_option maxRecDepth 20000 in
theorem mul_any (n : Int) (w : World) (hn : n = 2 ∨ n = 3 ∨ n = 4 ∨ n = 5) :
    Calls Try.prog 156 #[.int .u64 1, .int .u64 n] w fun e w' => e = .returned (.tuple #[.int .u64 0, .int .u64 n]) ∧ w = w' := by
  have hn0 := hn
  go_enter Try.func156, Try.ntmps156
  go_wp2_with (first | (go_at_call 161; ((with_reducible refine (mul64_any n _ hn0).mono ?_); rintro e w1 ⟨rfl, rfl⟩)))
  go_ret2
  exact ⟨rfl, rfl⟩

theorem splice_repl {α : Type} (m k d : Nat) (X Z : α) (hd : k + d ≤ m) : splice (List.replicate k X ++ List.replicate (m - k) Z) k (List.replicate d X) = List.replicate (k + d) X ++ List.replicate (m - (k + d)) Z := by
  unfold splice
  rw [List.length_replicate, List.take_append_of_le_length (by simp), List.take_of_length_le (by simp), List.drop_append, List.drop_of_length_le (by simp), List.length_replicate, List.drop_replicate, List.nil_append, ← List.append_assoc, List.replicate_append_replicate]
  congr 2
  omega
theorem made_repl (m : Nat) : (madeCells #[.int .i64 0] m : Array Value) = (List.replicate m (Value.int .i64 0)).toArray := by
  apply Array.ext'
  rw [toList_madeCells_one]
theorem own_heap {w : World} {g m : Nat} {e : TypeId} {xs : List Value} (h : w.heap[g]? = some (.cells xs.toArray e (0, 0))) (hl : xs.length = m) (b : Nat) (hb : b ≤ g) (hm : m ≤ maxLen) : w.ownsRow b e 1 (.slice (some ⟨g, 0, none⟩) m m) m xs := by
  refine ⟨by omega, .inr ⟨g, m, xs.toArray, rfl, hb, h, Nat.le_refl _, hm, by simp; omega, ?_⟩⟩
  rw [List.take_of_length_le (by simp; omega)]

set_option maxHeartbeats 2000000 in
set_option maxRecDepth 20000 in
theorem repeat_any (v : Value) (x n : Int) (b : Nat) (w : World) (hx : Ints w b v [x]) (hn : n = 2 ∨ n = 3 ∨ n = 4 ∨ n = 5) :
    Calls Try.prog 150 #[v, .int .i64 n] w fun e w' => ∃ r, e = .returned r ∧ Ints w' w.heap.size r (List.replicate n.toNat x) ∧ Below w.heap.size w w' := by
  obtain ⟨A, c, rfl, hc1, hc2, hs, hcell⟩ := hx.form
  unfold maxLen at hc2
  obtain ⟨g, rfl, hg1, hg2, c0, f0⟩ := hcell w (Below.refl _ _) 0 (by simp)
  replace c0 : w.cell? ⟨g, 0, none⟩ = some (.int .i64 x) := c0
  replace hc1 : 1 ≤ c := hc1
  rw [show [x].length = 1 from rfl]
  have hn0 := hn
  obtain ⟨m, rfl, hm1, hm2⟩ : ∃ m : Nat, n = (m : Int) ∧ 2 ≤ m ∧ m ≤ 5 := ⟨n.toNat, by omega, by omega, by omega⟩
  rw [Int.toNat_natCast]
  have hmk := fun W => run_make_ints (n := m) (by omega) W
  clear hx hcell hn hs
  go_enter Try.func150, Try.ntmps150
  go_upto_region 7 with (first | (go_at_call 156; ((with_reducible refine (mul_any m _ hn0).mono ?_); rintro e w1 ⟨rfl, rfl⟩)))
  have hsz : (Try.prog.info? 3).map (fun i => i.size) = some 1 := by kernel_rfl
  have hne : g ≠ w.heap.size := by omega
  go_upto_region 8 with (refine wpList_copy_splice (o := ⟨some 33, _, _, _, _, _⟩) rfl (.tmp 31) (.tmp 32) 40 40 rfl 3 Try.underlying40 hsz (some ⟨w.heap.size, 0, none⟩) (some ⟨g, 0, none⟩) m m 1 c rfl rfl w.heap.size 0 (List.replicate m (.int .i64 0)) 3 ?q1 [.int .i64 x] ?q2 ?q3 ?q4 ?q5 w.heap.size w ?q6 (Nat.le_refl _) ?_)
  case q1 => rw [← made_repl]; exact heap_alloc_new _ _
  case q2 => rw [show Nat.min 1 m = min 1 m from rfl]; simp; omega
  case q3 =>
    intro j u hj
    have hj0 : j = 0 := by
      have := (List.getElem?_eq_some_iff.1 hj).1
      simp at this; exact this
    subst hj0
    injection hj with hj
    subst hj
    exact c0
  case q4 => simp; omega
  case q5 => simp [Value.oneCell']
  case q6 => (repeat (first | (with_reducible assumption) | (with_reducible exact Below.refl _ _) | ((with_reducible refine Below.alloc ?_ ?hsz _); (case hsz => (first | omega | (simp; done) | (simp; omega) | (simp at *; omega)))) | ((with_reducible refine Below.setCell ?_ ?hsz _); (case hsz => (first | omega | (simp; done) | (simp; omega) | (simp at *; omega)))) | (with_reducible refine Below.drew ?_) | (with_reducible refine below_drewN ?_ _) | ((with_reducible refine Below.trans ?_ (Below.mono (by with_reducible assumption) ?hsz)); (case hsz => (first | omega | (simp; done) | (simp; omega) | (simp at *; omega))))))
  intro w2 HG2 hB2
  have h20 : splice (List.replicate m (Value.int .i64 0)) 0 [Value.int .i64 x] = List.replicate 1 (Value.int .i64 x) ++ List.replicate (m - 1) (Value.int .i64 0) := by
    have := splice_repl m 0 1 (Value.int .i64 x) (Value.int .i64 0) (by omega)
    simpa using this
  replace HG2 := Lib.hid (show w2.heap[w.heap.size]? = some (.cells (List.replicate 1 (Value.int .i64 x) ++ List.replicate (m - 1) (Value.int .i64 0)).toArray 3 (0, 0)) by rw [← h20]; exact HG2.out)
  clear h20
  go_upto_region 8 with fail
  go_loopw [8] (fun i wr => ∃ k : Nat, 1 ≤ k ∧ k ≤ m ∧ i = .int .i64 k ∧ Hid (wr.heap[w.heap.size]? = some (.cells (List.replicate k (Value.int .i64 x) ++ List.replicate (m - k) (Value.int .i64 0)).toArray 3 (0, 0))) ∧ Below w.heap.size w wr) (fun i _ => m - (intOf i).toNat)
  case atStart => exact ⟨1, by omega, by omega, rfl, HG2, hB2⟩
  case round =>
    obtain ⟨k, hk0, hk, rfl, HG, hb⟩ := hrel
    clear HG2 hB2
    by_cases hlt : k < m
    · obtain ⟨d, hd⟩ : ∃ d, d = min k (m - k) := ⟨_, rfl⟩
      have hd1 : 1 ≤ d ∧ k + d ≤ m ∧ d ≤ k := by omega
      have hG := HG.out
      have hsrc : ∀ j v, (List.replicate d (Value.int .i64 x))[j]? = some v → wr.cell? ((⟨w.heap.size, 0, none⟩ : Addr).add j) = some v := by
        intro j v hj
        obtain ⟨hj1, hj2⟩ := List.getElem?_eq_some_iff.1 hj
        simp at hj1 hj2
        subst hj2
        rw [add_plain, Nat.zero_add, cell_of_row wr w.heap.size j _ _ (0, 0) hG, List.getElem?_toArray, List.getElem?_append_left (by simp; omega)]
        rw [List.getElem?_replicate, if_pos (by omega)]
      clear hG
      have hwr : IntKind.i64.wrap ((k : Int) + (d : Int)) = ((k + d : Nat) : Int) := by rw [IntWalk.i64_in _ (by omega)]; omega
      have hmk' : (m = k) = False := by simp; omega
      have hsrc := Lib.hid hsrc
      have hmin := Lib.hid hd
      clear hd
      go_upto_region 9 with fail
      go_region_law (refine step_copy_splice rfl (.tmp 41) (.tmp 44) 40 40 rfl 3 Try.underlying40 hsz (some ⟨w.heap.size, k, none⟩) (some ⟨w.heap.size, 0, none⟩) (m - k) (m - k) k m (by simp [Act.eval, Act.put]) (by simp [Act.eval, Act.put]) w.heap.size k (List.replicate k (Value.int .i64 x) ++ List.replicate (m - k) (Value.int .i64 0)) 3 HG.out (List.replicate d (Value.int .i64 x)) (by rw [show Nat.min k (m - k) = min k (m - k) from rfl, ← hmin.out]; simp) (fun _ => ⟨rfl, _, rfl, hsrc.out⟩) (by simp; omega) (by simp [Value.oneCell']) w.heap.size w (by (repeat (first | (with_reducible assumption) | (with_reducible exact Below.refl _ _) | ((with_reducible refine Below.alloc ?_ ?hsz _); (case hsz => (first | omega | (simp; done) | (simp; omega) | (simp at *; omega)))) | ((with_reducible refine Below.setCell ?_ ?hsz _); (case hsz => (first | omega | (simp; done) | (simp; omega) | (simp at *; omega)))) | (with_reducible refine Below.drew ?_) | (with_reducible refine below_drewN ?_ _) | ((with_reducible refine Below.trans ?_ (Below.mono (by with_reducible assumption) ?hsz)); (case hsz => (first | omega | (simp; done) | (simp; omega) | (simp at *; omega))))))) (Nat.le_refl _) ?_; intro w4 HG4 hB4)
      all_goals
        simp only [List.getElem_toArray, List.getElem_cons_succ, List.getElem_cons_zero, Act.put, List.setIfInBounds_toArray, List.set_cons_zero, List.set_cons_succ]
        have H5 := Lib.hid (show w4.heap[w.heap.size]? = some (.cells (List.replicate (k + d) (Value.int .i64 x) ++ List.replicate (m - (k + d)) (Value.int .i64 0)).toArray 3 (0, 0)) by
          rw [← splice_repl m k d _ _ hd1.2.1]; exact HG4.out)
        go_wp2

        go_roundw
        case rel => exact ⟨k + d, by omega, by omega, by go_num, H5, hB4⟩
        case measure => simp [intOf]; omega
    · have : k = m := by omega
      subst this
      go_wp2
      go_ret
      refine ⟨_, rfl, ⟨?_, by simp [small]; omega⟩, hb⟩
      have h := own_heap (e := 3) HG.out (m := k) (by simp) w.heap.size (Nat.le_refl _) (by unfold maxLen; omega)
      simpa using h

end Go.Proofs.Ytphbmlephldaaaa
