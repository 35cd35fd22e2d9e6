/- How a law's statement is closed: what was read before the call reads so behind it, as nothing older has changed. -/
import Derived.Test.YtabkhpeoeihmmaaB
import Derived.ProofKit
import Derived.ReadAgain
import Derived.Deep.Slices
import Derived.Deep.Fields
import Derived.Lib.SmallJoins
namespace Go.Proofs.Ytabkhpeoeihmmaa
open Go.ChangeShapes Go.WideShapes Go.ChangeAt Go.RowKit Go.Deep Go.Joins

theorem Try.own : ownKnob Try.prog.godebug = none := by kernel_rfl
theorem Try.kids : Kids Try.prog (· < Try.prog.types.size) := kids_rows (by kernel_rfl) (by kernel_rfl)
theorem Try.full : ∀ t e, t < Try.prog.types.size → Try.prog.underlying t = some (.slice e) → 0 < Try.prog.cellsOf e := slices_full_of Try.prog (by kernel_rfl)

section
variable {H : Type} {enc : TypeId × Value → H} {P : Program}
theorem trodAll_carry {w w' : World} {base : Nat} {spare : Nat → Bool} {held : Bool} : ∀ {ts : List TypeId} {vs : List Value} {ds : List (DataW H)} {ps : List MemPlace},
    DataW.TrodAll enc P w base spare held ts vs ds ps → (∀ p ∈ ps, w.sameAt w' p) → DataW.TrodAll enc P w' base spare held ts vs ds ps
  | [], [], [], _, h, _ => h
  | _ :: _, _ :: _, _ :: _, _, ⟨p, q, ⟨n, h1⟩, h2, e⟩, hs =>
    ⟨p, q, ⟨n, DataW.trod_carry n _ _ _ h1 (fun x hx => hs x (by rw [e]; exact List.mem_append_left _ hx))⟩,
      trodAll_carry h2 (fun x hx => hs x (by rw [e]; exact List.mem_append_right _ hx)), e⟩

theorem law_post {f : Func} {s : ChangeSpec} {tb : TypeId} {W W' : World} {args : Array Value} {ds gs : List (DataW H)} {before : List MemPlace}
    (K : Kids P (· < P.types.size)) (hz : ∀ t e, t < P.types.size → P.underlying t = some (.slice e) → 0 < P.cellsOf e)
    (hts : ∀ t ∈ f.params.toList, t < P.types.size) (hv : s.vars = [])
    (hrt : f.resultTypes = #[tb]) (htb : P.underlying tb = some .bool)
    (hW : DataW.Whole enc P f.params.toList s.vars false W args.toList ds gs before)
    (hr : (s.fn H (ds ++ gs)).results = [.lit (.bool true)]) (ha : (s.fn H (ds ++ gs)).args = ds) (hvs : (s.fn H (ds ++ gs)).vars = [])
    (hb : Below W.heap.size W W') : s.post enc P f false true false false W args (.bool true) W' := by
  have hlt : ∀ p ∈ before, p.block < W.heap.size := fun p hp => hW.lt p hp
  have hW' := hW
  obtain ⟨p, q, hA, hV, e, hfz, hnd⟩ := hW
  rw [hv] at hV
  have hq : q = [] := by
    cases gs with
    | nil => exact hV
    | cons _ _ => exact absurd hV (by simp [DataW.TrodVars])
  subst hq
  rw [List.append_nil] at e
  subst e
  refine ⟨ds, gs, before, [], before, [], hW', ?_, ?_, ?_, hb.frame _, fun h => by cases h⟩
  · rw [hr, hrt]
    exact trodAll_mk1 (shut_bool htb true)
  · rw [ha]
    exact trodAll_carry (DataW.TrodAll.respare K hz hts hA (fun x hx => by simpa using hlt x hx)) (fun x hx => hb.same (hlt x hx))
  · rw [hv, hvs]
    rfl
end

/-- A row of numbers that came in: its cells, wherever they lie. -/
def ArgInts (w : World) (v : Value) (xs : List Int) : Prop :=
  ∃ (A : Option Addr) (c : Nat), v = .slice A xs.length c ∧ xs.length ≤ c ∧ c ≤ maxLen ∧ ∀ k (hk : k < xs.length), ∃ g o, A = some ⟨g, o, none⟩ ∧ g < w.heap.size ∧ w.cell? ⟨g, o + k, none⟩ = some (.int .i64 xs[k])

/-- A row of pipes that came in. -/
def ArgPipes (w : World) (v : Value) (ps : List Pp) : Prop :=
  ∃ (A : Option Addr) (c : Nat), v = .slice A ps.length c ∧ ps.length ≤ c ∧ c ≤ maxLen ∧ ∀ k (hk : k < ps.length), ∃ g o, A = some ⟨g, o, none⟩ ∧ g < w.heap.size ∧
    w.cell? ⟨g, o + k * 5, none⟩ = some (.int .i64 ps[k].fr) ∧ w.cell? ⟨g, o + k * 5 + 1, none⟩ = some (.int .i64 ps[k].to) ∧ w.cell? ⟨g, o + k * 5 + 2, none⟩ = some (.int .i64 ps[k].le) ∧
    w.cell? ⟨g, o + k * 5 + 3, none⟩ = some (.int .i64 ps[k].mo) ∧ w.cell? ⟨g, o + k * 5 + 4, none⟩ = some (.int .i64 ps[k].co)

/-- A text of bytes that came in. -/
def ArgBytes (w : World) (v : Value) (n : Nat) : Prop :=
  ∃ (A : Option Addr) (c : Nat), v = .slice A n c ∧ n ≤ c ∧ c ≤ maxLen ∧ ∀ k, k < n → ∃ g o x, A = some ⟨g, o, none⟩ ∧ g < w.heap.size ∧ w.cell? ⟨g, o + k, none⟩ = some (.int .u8 x) ∧ 0 ≤ x ∧ x ≤ 255

section
variable {H : Type} {enc : TypeId × Value → H} {w : World} {base : Nat} {spare : Nat → Bool} {held : Bool} {r : Reach} {b0 : Nat}

theorem list_of {α : Type} (d : α) (p : Nat → α → Prop) (n : Nat) (h : ∀ i, i < n → ∃ x, p i x) : ∃ l : List α, l.length = n ∧ ∀ k (hk : k < l.length), p k l[k] := by
  haveI : Inhabited α := ⟨d⟩
  obtain ⟨f, hf⟩ := choose_lt h
  exact ⟨(List.range n).map f, by simp, fun k hk => by simpa using hf k (by simpa using hk)⟩

theorem cell_lt {a : Addr} {v : Value} (h : w.cell? a = some v) : a.block < w.heap.size := by
  rcases Nat.lt_or_ge a.block w.heap.size with hlt | hge
  · exact hlt
  · unfold World.cell? at h
    rw [Array.getElem?_eq_none hge] at h
    cases h
theorem plain_addr {a : Addr} {v : Value} (h : w.cell? (a.add 0) = some v) : ∃ g o, a = ⟨g, o, none⟩ ∧ g < w.heap.size := by
  have h' : w.cell? a = some v := h
  have hl := cell_lt h'
  obtain ⟨g, o, s⟩ := a
  cases s with
  | none => exact ⟨g, o, rfl, hl⟩
  | some s =>
    unfold World.cell? at h'
    split at h' <;> simp at h'
theorem add_plain (g o n : Nat) : (⟨g, o, none⟩ : Addr).add n = ⟨g, o + n, none⟩ := by
  unfold Addr.add
  split
  · next h => subst h; rfl
  · rfl

theorem open_arg_ints {cs : List Value} {fuel : Nat} {x : DataW H × List MemPlace} (h : DataW.trod enc Try.prog w base spare held fuel 25 cs = some x) :
    ∃ v xs, cs = [v] ∧ ArgInts w v xs := by
  rcases open_ints Try.underlying25 Try.underlying3 (by kernel_rfl) h with ⟨rfl, _⟩ | ⟨a, len, cap, zs, rfl, hb, hl, hm, hz, rfl, hc, hw⟩
  · exact ⟨_, [], rfl, none, 0, rfl, Nat.le_refl _, by simp [maxLen], fun k hk => by simp at hk⟩
  · have hlz : len ≤ zs.length := by rw [hz]; split <;> omega
    have ht : (zs.take len).length = len := by simp; omega
    refine ⟨_, zs.take len, rfl, some a, cap, by rw [ht], by omega, hm, fun k hk => ?_⟩
    obtain ⟨g, o, rfl, hg⟩ := plain_addr (hc 0 (by omega))
    refine ⟨g, o, rfl, hg, ?_⟩
    rw [← add_plain, hc k (by omega)]
    simp [List.getD, List.getElem?_eq_getElem (show k < zs.length by omega)]

theorem open_arg_bytes {cs : List Value} {fuel : Nat} {x : DataW H × List MemPlace} (h : DataW.trod enc Try.prog w base spare held fuel 49 cs = some x) :
    ∃ v n, cs = [v] ∧ ArgBytes w v n := by
  rcases open_ints Try.underlying49 Try.underlying5 (by kernel_rfl) h with ⟨rfl, _⟩ | ⟨a, len, cap, zs, rfl, hb, hl, hm, hz, rfl, hc, hw⟩
  · exact ⟨_, 0, rfl, none, 0, rfl, Nat.le_refl _, by simp [maxLen], fun k hk => by omega⟩
  · have hlz : len ≤ zs.length := by rw [hz]; split <;> omega
    refine ⟨_, len, rfl, some a, cap, rfl, by omega, hm, fun k hk => ?_⟩
    obtain ⟨g, o, rfl, hg⟩ := plain_addr (hc 0 (by omega))
    refine ⟨g, o, zs.getD k 0, rfl, hg, ?_, ?_⟩
    · rw [← add_plain]; exact hc k (by omega)
    · have hwf := hw (zs.getD k 0) (by simp [List.getD, List.getElem?_eq_getElem (show k < zs.length by omega)])
      exact bounds_u8 hwf

theorem one_of_cells {P : Program} {t e : TypeId} {v s : Value} (ht : P.underlying t = some (.slice e)) (h : Value.okWide P w r b0 t v) (hc : v.cells.toList = [s]) : v = s := by
  obtain ⟨a, len, cap, rfl⟩ := okWide_slice ht h
  simpa [Value.cells] using hc
theorem five_of {P : Program} {t ti : TypeId} {f0 f1 f2 f3 f4 : Field} {cs : List Value} {fuel : Nat} {x : DataW H × List MemPlace} (hs : P.underlying t = some (.struct #[f0, f1, f2, f3, f4]))
    (hone : oneCellFields P #[f0, f1, f2, f3, f4] = true) (hC : P.cellsOf t = 5) (hi : P.underlying ti = some (.int .i64))
    (t0 : f0.type = ti) (t1 : f1.type = ti) (t2 : f2.type = ti) (t3 : f3.type = ti) (t4 : f4.type = ti)
    (h : DataW.trod enc P w base spare held fuel t cs = some x) : ∃ p : Pp, cs = p.cells := by
  obtain ⟨xs, n, _, _, hl, hxl, hf⟩ := DataW.trod_struct hs h
  rw [hC] at hl
  have key : ∀ (i : Nat) (f : Field), (#[f0, f1, f2, f3, f4] : Array Field)[i]? = some f → f.type = ti → ∃ z : Int, (cs.drop i).take 1 = [.int .i64 z] := by
    intro i f hf1 hft
    obtain ⟨ho, hk⟩ := hone_of hone i f hf1
    have h1 := hf i f hf1
    have hlt : i < xs.length := by rw [hxl]; exact (Array.getElem?_eq_some_iff.1 hf1).1
    rw [ho, hk, hft, List.getElem?_eq_getElem hlt] at h1
    obtain ⟨z, hz, _⟩ := DataW.trod_int hi h1
    exact ⟨z, hz⟩
  obtain ⟨z0, h0⟩ := key 0 f0 rfl t0
  obtain ⟨z1, h1⟩ := key 1 f1 rfl t1
  obtain ⟨z2, h2⟩ := key 2 f2 rfl t2
  obtain ⟨z3, h3⟩ := key 3 f3 rfl t3
  obtain ⟨z4, h4⟩ := key 4 f4 rfl t4
  match cs, hl with
  | [c0, c1, c2, c3, c4], _ =>
    simp at h0 h1 h2 h3 h4
    exact ⟨⟨z0, z1, z2, z3, z4⟩, by simp [Pp.cells, h0, h1, h2, h3, h4]⟩

theorem five_ints {cs : List Value} {fuel : Nat} {x : DataW H × List MemPlace} (h : DataW.trod enc Try.prog w base spare held fuel 97 cs = some x) :
    ∃ p : Pp, cs = p.cells :=
  five_of Try.underlying97 (by kernel_rfl) (by kernel_rfl) Try.underlying3 rfl rfl rfl rfl rfl h

theorem open_arg_pipes {cs : List Value} {fuel : Nat} {x : DataW H × List MemPlace} (h : DataW.trod enc Try.prog w base spare held fuel 22 cs = some x) :
    ∃ v ps, cs = [v] ∧ ArgPipes w v ps := by
  have hC : Try.prog.cellsOf 97 = 5 := by kernel_rfl
  rcases open_slice Try.underlying22 h with ⟨rfl, _⟩ | ⟨a, len, cap, m, n, D, Pl, rfl, hb, hl, hm, hmm, rfl, hi⟩
  · exact ⟨_, [], rfl, none, 0, rfl, Nat.le_refl _, by simp [maxLen], fun k hk => by simp at hk⟩
  · have hlm : len ≤ m := by rw [hmm]; split <;> omega
    obtain ⟨ps, hpl, hps⟩ := list_of (⟨0, 0, 0, 0, 0⟩ : Pp) (fun i p => w.cells? base (a.add (i * 5)) 5 = some p.cells) len (fun i hil => by
      obtain ⟨cs', h1, h2⟩ := hi i (by omega)
      rw [hC] at h1
      obtain ⟨p, rfl⟩ := five_ints h2
      exact ⟨p, h1⟩)
    subst hpl
    refine ⟨_, ps, rfl, some a, cap, rfl, hl, hm, fun k hk => ?_⟩
    obtain ⟨_, _, hat0⟩ := World.cells?_some (hps 0 (by omega))
    obtain ⟨g, o, rfl, hg⟩ := plain_addr ((hat0 0 (by omega)).trans rfl)
    refine ⟨g, o, rfl, hg, ?_⟩
    obtain ⟨_, _, hat⟩ := World.cells?_some (hps k hk)
    have hx : ∀ j, j < 5 → w.cell? ⟨g, o + k * 5 + j, none⟩ = ps[k].cells[j]? := fun j hj => by rw [← hat j hj, add_plain, add_plain]
    exact ⟨hx 0 (by omega), hx 1 (by omega), hx 2 (by omega), hx 3 (by omega), hx 4 (by omega)⟩
end

theorem ArgInts.keep {w w' : World} {v : Value} {xs : List Int} (h : ArgInts w v xs) (hb : Below w.heap.size w w') : ArgInts w' v xs := by
  obtain ⟨A, c, hv, h1, h2, hc⟩ := h
  refine ⟨A, c, hv, h1, h2, fun k hk => ?_⟩
  obtain ⟨g, o, hA, hg, c0⟩ := hc k hk
  exact ⟨g, o, hA, Nat.lt_of_lt_of_le hg hb.size, (hb.cell (p := ⟨g, _, none⟩) hg).trans c0⟩
theorem ArgPipes.keep {w w' : World} {v : Value} {ps : List Pp} (h : ArgPipes w v ps) (hb : Below w.heap.size w w') : ArgPipes w' v ps := by
  obtain ⟨A, c, hv, h1, h2, hc⟩ := h
  refine ⟨A, c, hv, h1, h2, fun k hk => ?_⟩
  obtain ⟨g, o, hA, hg, c0, c1, c2, c3, c4⟩ := hc k hk
  exact ⟨g, o, hA, Nat.lt_of_lt_of_le hg hb.size, (hb.cell (p := ⟨g, _, none⟩) hg).trans c0, (hb.cell (p := ⟨g, _, none⟩) hg).trans c1, (hb.cell (p := ⟨g, _, none⟩) hg).trans c2,
    (hb.cell (p := ⟨g, _, none⟩) hg).trans c3, (hb.cell (p := ⟨g, _, none⟩) hg).trans c4⟩
theorem ArgBytes.keep {w w' : World} {v : Value} {n : Nat} (h : ArgBytes w v n) (hb : Below w.heap.size w w') : ArgBytes w' v n := by
  obtain ⟨A, c, hv, h1, h2, hc⟩ := h
  refine ⟨A, c, hv, h1, h2, fun k hk => ?_⟩
  obtain ⟨g, o, x, hA, hg, c0, r⟩ := hc k hk
  exact ⟨g, o, x, hA, Nat.lt_of_lt_of_le hg hb.size, (hb.cell (p := ⟨g, _, none⟩) hg).trans c0, r⟩

end Go.Proofs.Ytabkhpeoeihmmaa
