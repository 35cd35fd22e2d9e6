/- Plain facts. -/
import Derived.Test.YtmgpekdhcghabaaGreatGR26
import Derived.ProofKit
import Derived.ReadAgain
import Derived.Deep.Slices
import Derived.Deep.Fields
import Derived.Lib.SmallJoins
import Derived.Test.YtmgpekdhcghabaaGreatWD
import Derived.Test.YtmgpekdhcghabaaGreatMG
import Derived.Laws.CopyOwn
import Derived.Deep.RegionHeld3
import Derived.Test.YtmgpekdhcghabaaGreatGR7
/- How a law's statement is closed: what was read before the call reads so behind it, as nothing older has changed. -/
namespace Go.Proofs.YtmgpekdhcghabaaGreat
open Go.ChangeShapes Go.WideShapes Go.ChangeAt Go.RowKit Go.Deep Go.Joins

theorem Tryz.own : ownKnob Tryz.prog.godebug = none := by kernel_rfl
theorem Tryz.kids : Kids Tryz.prog (· < Tryz.prog.types.size) := kids_rows (by kernel_rfl) (by kernel_rfl)
theorem Tryz.full : ∀ t e, t < Tryz.prog.types.size → Tryz.prog.underlying t = some (.slice e) → 0 < Tryz.prog.cellsOf e := slices_full_of Tryz.prog (by kernel_rfl)

section
variable {H : Type} {enc : TypeId × Value → H} {P : Program}
theorem trodAll_carry {w w' : World} {base : Nat} {spare : Nat → Bool} {held : Bool} : ∀ {ts : List TypeId} {vs : List Value} {ds : List (DataW H)} {ps : List MemPlace},
    DataW.TrodAll enc P w base spare held ts vs ds ps → (∀ p ∈ ps, w.sameAt w' p) → DataW.TrodAll enc P w' base spare held ts vs ds ps
  | [], [], [], _, h, _ => h
  | _ :: _, _ :: _, _ :: _, _, ⟨p, q, ⟨n, h1⟩, h2, e⟩, hs =>
    ⟨p, q, ⟨n, DataW.trod_carry n _ _ _ h1 (fun x hx => hs x (by rw [e]; exact List.mem_append_left _ hx))⟩,
      trodAll_carry h2 (fun x hx => hs x (by rw [e]; exact List.mem_append_right _ hx)), e⟩

theorem law_post {f : Func} {s : ChangeSpec} {tb : TypeId} {W W' : World} {args : Array Value} {ds gs : List (DataW H)} {before : List MemPlace}
    (K : Kids P (· < P.types.size)) (hz : ∀ t e, t < P.types.size → P.underlying t = some (.slice e) → 0 < P.cellsOf e)
    (hts : ∀ t ∈ f.params.toList, t < P.types.size) (hv : s.vars = [])
    (hrt : f.resultTypes = #[tb]) (htb : P.underlying tb = some .bool)
    (hW : DataW.Whole enc P f.params.toList s.vars false W args.toList ds gs before)
    (hr : (s.fn H (ds ++ gs)).results = [.lit (.bool true)]) (ha : (s.fn H (ds ++ gs)).args = ds) (hvs : (s.fn H (ds ++ gs)).vars = [])
    (hb : Below W.heap.size W W') : s.post enc P f false true false false W args (.bool true) W' := by
  have hlt : ∀ p ∈ before, p.block < W.heap.size := fun p hp => hW.lt p hp
  have hW' := hW
  obtain ⟨p, q, hA, hV, e, hfz, hnd⟩ := hW
  rw [hv] at hV
  have hq : q = [] := by
    cases gs with
    | nil => exact hV
    | cons _ _ => exact absurd hV (by simp [DataW.TrodVars])
  subst hq
  rw [List.append_nil] at e
  subst e
  refine ⟨ds, gs, before, [], before, [], hW', ?_, ?_, ?_, hb.frame _, fun h => by cases h⟩
  · rw [hr, hrt]
    exact trodAll_mk1 (shut_bool htb true)
  · rw [ha]
    exact trodAll_carry (DataW.TrodAll.respare K hz hts hA (fun x hx => by simpa using hlt x hx)) (fun x hx => hb.same (hlt x hx))
  · rw [hv, hvs]
    rfl
end

/-- A row of numbers that came in: its cells, wherever they lie. -/
def ArgInts (w : World) (v : Value) (xs : List Int) : Prop :=
  ∃ (A : Option Addr) (c : Nat), v = .slice A xs.length c ∧ xs.length ≤ c ∧ c ≤ maxLen ∧ ∀ k (hk : k < xs.length), ∃ g o, A = some ⟨g, o, none⟩ ∧ g < w.heap.size ∧ w.cell? ⟨g, o + k, none⟩ = some (.int .i64 xs[k])

/-- A row of pipes that came in. -/
def ArgPipes (w : World) (v : Value) (ps : List Pp) : Prop :=
  ∃ (A : Option Addr) (c : Nat), v = .slice A ps.length c ∧ ps.length ≤ c ∧ c ≤ maxLen ∧ ∀ k (hk : k < ps.length), ∃ g o, A = some ⟨g, o, none⟩ ∧ g < w.heap.size ∧
    w.cell? ⟨g, o + k * 5, none⟩ = some (.int .i64 ps[k].fr) ∧ w.cell? ⟨g, o + k * 5 + 1, none⟩ = some (.int .i64 ps[k].to) ∧ w.cell? ⟨g, o + k * 5 + 2, none⟩ = some (.int .i64 ps[k].le) ∧
    w.cell? ⟨g, o + k * 5 + 3, none⟩ = some (.int .i64 ps[k].mo) ∧ w.cell? ⟨g, o + k * 5 + 4, none⟩ = some (.int .i64 ps[k].co)

/-- A text of bytes that came in. -/
def ArgBytes (w : World) (v : Value) (n : Nat) : Prop :=
  ∃ (A : Option Addr) (c : Nat), v = .slice A n c ∧ n ≤ c ∧ c ≤ maxLen ∧ ∀ k, k < n → ∃ g o x, A = some ⟨g, o, none⟩ ∧ g < w.heap.size ∧ w.cell? ⟨g, o + k, none⟩ = some (.int .u8 x) ∧ 0 ≤ x ∧ x ≤ 255

section
variable {H : Type} {enc : TypeId × Value → H} {w : World} {base : Nat} {spare : Nat → Bool} {held : Bool} {r : Reach} {b0 : Nat}

theorem cell_lt {a : Addr} {v : Value} (h : w.cell? a = some v) : a.block < w.heap.size := by
  rcases Nat.lt_or_ge a.block w.heap.size with hlt | hge
  · exact hlt
  · unfold World.cell? at h
    rw [Array.getElem?_eq_none hge] at h
    cases h
theorem plain_addr {a : Addr} {v : Value} (h : w.cell? (a.add 0) = some v) : ∃ g o, a = ⟨g, o, none⟩ ∧ g < w.heap.size := by
  have h' : w.cell? a = some v := h
  have hl := cell_lt h'
  obtain ⟨g, o, s⟩ := a
  cases s with
  | none => exact ⟨g, o, rfl, hl⟩
  | some s =>
    unfold World.cell? at h'
    split at h' <;> simp at h'
theorem add_plain (g o n : Nat) : (⟨g, o, none⟩ : Addr).add n = ⟨g, o + n, none⟩ := by
  unfold Addr.add
  split
  · next h => subst h; rfl
  · rfl

theorem open_arg_bytes {cs : List Value} {fuel : Nat} {x : DataW H × List MemPlace} (h : DataW.trod enc Tryz.prog w base spare held fuel 22 cs = some x) :
    ∃ v n, cs = [v] ∧ ArgBytes w v n := by
  rcases open_ints Tryz.underlying22 Tryz.underlying5 (by kernel_rfl) h with ⟨rfl, _⟩ | ⟨a, len, cap, zs, rfl, hb, hl, hm, hz, rfl, hc, hw⟩
  · exact ⟨_, 0, rfl, none, 0, rfl, Nat.le_refl _, by simp [maxLen], fun k hk => by omega⟩
  · have hlz : len ≤ zs.length := by rw [hz]; split <;> omega
    refine ⟨_, len, rfl, some a, cap, rfl, by omega, hm, fun k hk => ?_⟩
    obtain ⟨g, o, rfl, hg⟩ := plain_addr (hc 0 (by omega))
    refine ⟨g, o, zs.getD k 0, rfl, hg, ?_, ?_⟩
    · rw [← add_plain]; exact hc k (by omega)
    · have hwf := hw (zs.getD k 0) (by simp [List.getD, List.getElem?_eq_getElem (show k < zs.length by omega)])
      exact bounds_u8 hwf

theorem one_of_cells {P : Program} {t e : TypeId} {v s : Value} (ht : P.underlying t = some (.slice e)) (h : Value.okWide P w r b0 t v) (hc : v.cells.toList = [s]) : v = s := by
  obtain ⟨a, len, cap, rfl⟩ := okWide_slice ht h
  simpa [Value.cells] using hc
end

theorem ArgInts.keep {w w' : World} {v : Value} {xs : List Int} (h : ArgInts w v xs) (hb : Below w.heap.size w w') : ArgInts w' v xs := by
  obtain ⟨A, c, hv, h1, h2, hc⟩ := h
  refine ⟨A, c, hv, h1, h2, fun k hk => ?_⟩
  obtain ⟨g, o, hA, hg, c0⟩ := hc k hk
  exact ⟨g, o, hA, Nat.lt_of_lt_of_le hg hb.size, (hb.cell (p := ⟨g, _, none⟩) hg).trans c0⟩
theorem ArgPipes.keep {w w' : World} {v : Value} {ps : List Pp} (h : ArgPipes w v ps) (hb : Below w.heap.size w w') : ArgPipes w' v ps := by
  obtain ⟨A, c, hv, h1, h2, hc⟩ := h
  refine ⟨A, c, hv, h1, h2, fun k hk => ?_⟩
  obtain ⟨g, o, hA, hg, c0, c1, c2, c3, c4⟩ := hc k hk
  exact ⟨g, o, hA, Nat.lt_of_lt_of_le hg hb.size, (hb.cell (p := ⟨g, _, none⟩) hg).trans c0, (hb.cell (p := ⟨g, _, none⟩) hg).trans c1, (hb.cell (p := ⟨g, _, none⟩) hg).trans c2,
    (hb.cell (p := ⟨g, _, none⟩) hg).trans c3, (hb.cell (p := ⟨g, _, none⟩) hg).trans c4⟩
theorem ArgBytes.keep {w w' : World} {v : Value} {n : Nat} (h : ArgBytes w v n) (hb : Below w.heap.size w w') : ArgBytes w' v n := by
  obtain ⟨A, c, hv, h1, h2, hc⟩ := h
  refine ⟨A, c, hv, h1, h2, fun k hk => ?_⟩
  obtain ⟨g, o, x, hA, hg, c0, r⟩ := hc k hk
  exact ⟨g, o, x, hA, Nat.lt_of_lt_of_le hg hb.size, (hb.cell (p := ⟨g, _, none⟩) hg).trans c0, r⟩

end Go.Proofs.YtmgpekdhcghabaaGreat

/- Contracts of the functions of chapter 3 in the program: folds over a way, pushes. -/
namespace Go.Proofs.YtmgpekdhcghabaaGreat
open Go.RowKit

/-- numbers of steps as numbers -/
abbrev ofS (l : List Nat) : List Int := l.map fun s : Nat => (s : Int)

set_option maxHeartbeats 1000000 in
set_option maxRecDepth 20000 in
theorem wayRoomFn_any (s bp bf : Nat) (r : Int) (v u : Value) (ps : List Pp) (xs : List Int) (b b' : Nat) (w : World) (hp : Pipes w b v ps) (hx : Ints w b' u xs) (hs : s < 2 * ps.length) (hl : ps.length ≤ 7) (hlen : xs.length = ps.length)
    (ha : ∀ x ∈ xs, 0 ≤ x ∧ x ≤ 40) (hr : ∀ p ∈ ps, 0 ≤ p.le ∧ p.le ≤ p.mo ∧ p.mo ≤ 4) (d0 : w.cell? ⟨bp, 0, none⟩ = some v) (d1 : w.cell? ⟨bf, 0, none⟩ = some u) :
    Calls Tryz.prog 130 #[.int .i64 r, .int .i64 s, .pointer (some ⟨bp, 0, none⟩), .pointer (some ⟨bf, 0, none⟩)] w fun e w' => e = .returned (.int .i64 (min r (stRoom ps xs s))) ∧ Below w.heap.size w w' := by
  have hp0 := hp
  have hx0 := hx
  obtain ⟨A, c, rfl, -, -, -, -⟩ := hp.form
  obtain ⟨A', c', rfl, -, -, -, -⟩ := hx.form
  have HH := Lib.hid (And.intro hlen (And.intro ha hr))
  clear hlen ha hr
  go_enter Tryz.func130, Tryz.ntmps130
  go_wp2_with fail
  with_reducible refine (stepRoom_any s _ _ ps xs b b' _ hp0 hx0 hs hl HH.out.1 HH.out.2.1 HH.out.2.2).mono ?_
  rintro e w1 ⟨rfl, hb1⟩
  go_wp2
  all_goals
    go_ret
    exact ⟨ret_int (by omega), by (repeat (first | (with_reducible assumption) | (with_reducible exact Below.refl _ _) | ((with_reducible refine Below.alloc ?_ ?hsz _); (case hsz => (first | omega | (simp; done) | (simp; omega) | (simp at *; omega)))) | ((with_reducible refine Below.setCell ?_ ?hsz _); (case hsz => (first | omega | (simp; done) | (simp; omega) | (simp at *; omega)))) | (with_reducible refine Below.drew ?_) | (with_reducible refine below_drewN ?_ _) | ((with_reducible refine Below.trans ?_ (Below.mono (by with_reducible assumption) ?hsz)); (case hsz => (first | omega | (simp; done) | (simp; omega) | (simp at *; omega))))))⟩

theorem roomL_snoc (ps : List Pp) (xs : List Int) (r : Int) (l : List Nat) (k : Nat) (hk : k < l.length) : roomL ps xs r (l.take (k + 1)) = min (roomL ps xs r (l.take k)) (stRoom ps xs l[k]) := by
  rw [List.take_succ_eq_append_getElem hk, roomL, List.foldl_append]
  rfl
theorem pushL_snoc (a : Int) (xs : List Int) (l : List Nat) (k : Nat) (hk : k < l.length) : pushL a xs (l.take (k + 1)) = push1 a (pushL a xs (l.take k)) l[k] := by
  rw [List.take_succ_eq_append_getElem hk, pushL, List.foldl_append]
  rfl

set_option maxHeartbeats 2000000 in
set_option maxRecDepth 20000 in
theorem foldRoom_any (bp bf : Nat) (r : Int) (u0 v u : Value) (l : List Nat) (ps : List Pp) (xs : List Int) (b b' b0 : Nat) (w : World) (h0 : Ints w b0 u0 (ofS l)) (hp : Pipes w b v ps) (hx : Ints w b' u xs) (hs : ∀ s ∈ l, s < 2 * ps.length) (hl : ps.length ≤ 7) (hlen : xs.length = ps.length)
    (ha : ∀ x ∈ xs, 0 ≤ x ∧ x ≤ 40) (hr : ∀ p ∈ ps, 0 ≤ p.le ∧ p.le ≤ p.mo ∧ p.mo ≤ 4) (hbp : bp < w.heap.size) (hbf : bf < w.heap.size) (d0 : w.cell? ⟨bp, 0, none⟩ = some v) (d1 : w.cell? ⟨bf, 0, none⟩ = some u) :
    Calls Tryz.prog 112 #[u0, .int .i64 r, .func (Fn.func 130) #[] #[.pointer (some ⟨bp, 0, none⟩), .pointer (some ⟨bf, 0, none⟩)]] w fun e w' => e = .returned (.int .i64 (roomL ps xs r l)) ∧ Below w.heap.size w w' := by
  obtain ⟨A, c, rfl, hc1, hc2, hsm, hcell⟩ := h0.form
  unfold maxLen at hc2
  have hlS : (ofS l).length = l.length := by simp
  rw [hlS] at hc1 hsm ⊢
  have hlS := Lib.hid hlS
  have HH := Lib.hid (And.intro hlen (And.intro ha hr))
  have HS := Lib.hid hs
  clear hlen ha hr hs
  go_enter Tryz.func112, Tryz.ntmps112
  go_wp2
  go_loopw [11, 1] (fun i t wr => ∃ k : Nat, k ≤ l.length ∧ i = .int .i64 k ∧ t = .int .i64 (roomL ps xs r (l.take k)) ∧ Below w.heap.size w wr) (fun i _ _ => l.length - (intOf i).toNat)
  case atStart => exact ⟨0, by omega, rfl, rfl, Below.refl _ _⟩
  case round =>
    obtain ⟨k, hk, rfl, rfl, hb⟩ := hrel
    by_cases hlt : k < l.length
    · obtain ⟨g, rfl, hg1, hg2, c0, -⟩ := hcell wr hb k (by rw [hlS.out]; exact hlt)
      have c0' : wr.cell? ⟨g, k, none⟩ = some (.int .i64 (l[k] : Nat)) := by rw [c0]; simp
      have Hn := Lib.hid (roomL_snoc ps xs r l k hlt)
      generalize roomL ps xs r (l.take k) = ro at *
      clear c0
      go_wp2_with fail
      with_reducible refine (wayRoomFn_any l[k] bp bf ro _ _ ps xs b b' _ (hp.keep hb) (hx.keep hb) (HS.out _ (List.getElem_mem hlt)) hl HH.out.1 HH.out.2.1 HH.out.2.2 (by (repeat (first | (with_reducible assumption) | ((with_reducible refine (Below.cell (by with_reducible assumption) ?hsz).trans ?_); (case hsz => (first | omega | (simp; done) | (simp; omega) | (simp at *; omega)))) | ((with_reducible refine (World.cell?_alloc_lt _ _ _ ?hsz).trans ?_); (case hsz => (first | omega | (simp; done) | (simp; omega) | (simp at *; omega)))) | ((with_reducible refine (World.cell?_setCell_other _ _ _ _ ?hsz).trans ?_); (case hsz => (intro h; injection h with h1 h2; omega)))))) (by (repeat (first | (with_reducible assumption) | ((with_reducible refine (Below.cell (by with_reducible assumption) ?hsz).trans ?_); (case hsz => (first | omega | (simp; done) | (simp; omega) | (simp at *; omega)))) | ((with_reducible refine (World.cell?_alloc_lt _ _ _ ?hsz).trans ?_); (case hsz => (first | omega | (simp; done) | (simp; omega) | (simp at *; omega)))) | ((with_reducible refine (World.cell?_setCell_other _ _ _ _ ?hsz).trans ?_); (case hsz => (intro h; injection h with h1 h2; omega))))))).mono ?_
      rintro e w2 ⟨rfl, hb2⟩
      have hsz := hb.size
      go_wp2
      go_roundw
      case rel => exact ⟨k + 1, by omega, by go_num, by rw [Hn.out], by (repeat (first | (with_reducible assumption) | (with_reducible exact Below.refl _ _) | ((with_reducible refine Below.alloc ?_ ?hsz _); (case hsz => (first | omega | (simp; done) | (simp; omega) | (simp at *; omega)))) | ((with_reducible refine Below.setCell ?_ ?hsz _); (case hsz => (first | omega | (simp; done) | (simp; omega) | (simp at *; omega)))) | (with_reducible refine Below.drew ?_) | (with_reducible refine below_drewN ?_ _) | ((with_reducible refine Below.trans ?_ (Below.mono (by with_reducible assumption) ?hsz)); (case hsz => (first | omega | (simp; done) | (simp; omega) | (simp at *; omega))))))⟩
      case measure => simp [intOf]; omega
    · have hk2 : k = l.length := by omega
      subst hk2
      rw [List.take_length]
      go_wp2
      go_ret
      exact ⟨rfl, hb⟩

set_option maxHeartbeats 1000000 in
set_option maxRecDepth 20000 in
theorem wayRoom_any (u0 v u : Value) (l : List Nat) (ps : List Pp) (xs : List Int) (b b' b0 : Nat) (w : World) (h0 : Ints w b0 u0 (ofS l)) (hp : Pipes w b v ps) (hx : Ints w b' u xs) (hs : ∀ s ∈ l, s < 2 * ps.length) (hl : ps.length ≤ 7) (hlen : xs.length = ps.length)
    (ha : ∀ x ∈ xs, 0 ≤ x ∧ x ≤ 40) (hr : ∀ p ∈ ps, 0 ≤ p.le ∧ p.le ≤ p.mo ∧ p.mo ≤ 4) :
    Calls Tryz.prog 107 #[v, u, u0] w fun e w' => e = .returned (.int .i64 (roomL ps xs 4 l)) ∧ Below w.heap.size w w' := by
  have hp0 := hp
  have hx0 := hx
  have h00 := h0
  obtain ⟨A, c, rfl, -, -, -, -⟩ := hp.form
  obtain ⟨A', c', rfl, -, -, -, -⟩ := hx.form
  obtain ⟨A0, c0, rfl, -, -, -, -⟩ := h0.form
  obtain ⟨m0, hm0⟩ : ∃ m, (ofS l).length = m := ⟨_, rfl⟩
  rw [hm0] at h00 ⊢
  clear h0 hm0
  have HH := Lib.hid (And.intro hlen (And.intro ha hr))
  have HS := Lib.hid hs
  clear hlen ha hr hs
  go_enter Tryz.func107, Tryz.ntmps107
  go_wp2_with fail
  refine (foldRoom_any _ _ 4 _ _ _ l ps xs b b' b0 _ (h00.keep (by (repeat (first | (with_reducible assumption) | (with_reducible exact Below.refl _ _) | ((with_reducible refine Below.alloc ?_ ?hsz _); (case hsz => (first | omega | (simp; done) | (simp; omega) | (simp at *; omega)))) | ((with_reducible refine Below.setCell ?_ ?hsz _); (case hsz => (first | omega | (simp; done) | (simp; omega) | (simp at *; omega)))) | (with_reducible refine Below.drew ?_) | (with_reducible refine below_drewN ?_ _) | ((with_reducible refine Below.trans ?_ (Below.mono (by with_reducible assumption) ?hsz)); (case hsz => (first | omega | (simp; done) | (simp; omega) | (simp at *; omega)))))))) (hp0.keep (by (repeat (first | (with_reducible assumption) | (with_reducible exact Below.refl _ _) | ((with_reducible refine Below.alloc ?_ ?hsz _); (case hsz => (first | omega | (simp; done) | (simp; omega) | (simp at *; omega)))) | ((with_reducible refine Below.setCell ?_ ?hsz _); (case hsz => (first | omega | (simp; done) | (simp; omega) | (simp at *; omega)))) | (with_reducible refine Below.drew ?_) | (with_reducible refine below_drewN ?_ _) | ((with_reducible refine Below.trans ?_ (Below.mono (by with_reducible assumption) ?hsz)); (case hsz => (first | omega | (simp; done) | (simp; omega) | (simp at *; omega)))))))) (hx0.keep (by (repeat (first | (with_reducible assumption) | (with_reducible exact Below.refl _ _) | ((with_reducible refine Below.alloc ?_ ?hsz _); (case hsz => (first | omega | (simp; done) | (simp; omega) | (simp at *; omega)))) | ((with_reducible refine Below.setCell ?_ ?hsz _); (case hsz => (first | omega | (simp; done) | (simp; omega) | (simp at *; omega)))) | (with_reducible refine Below.drew ?_) | (with_reducible refine below_drewN ?_ _) | ((with_reducible refine Below.trans ?_ (Below.mono (by with_reducible assumption) ?hsz)); (case hsz => (first | omega | (simp; done) | (simp; omega) | (simp at *; omega)))))))) HS.out hl HH.out.1 HH.out.2.1 HH.out.2.2 (by (first | omega | (simp; done) | (simp; omega) | (simp at *; omega))) (by (first | omega | (simp; done) | (simp; omega) | (simp at *; omega))) (by go_simp) (by go_simp)).mono ?_
  rintro e w1 ⟨rfl, hb1⟩
  go_wp2
  go_ret
  exact ⟨rfl, by (repeat (first | (with_reducible assumption) | (with_reducible exact Below.refl _ _) | ((with_reducible refine Below.alloc ?_ ?hsz _); (case hsz => (first | omega | (simp; done) | (simp; omega) | (simp at *; omega)))) | ((with_reducible refine Below.setCell ?_ ?hsz _); (case hsz => (first | omega | (simp; done) | (simp; omega) | (simp at *; omega)))) | (with_reducible refine Below.drew ?_) | (with_reducible refine below_drewN ?_ _) | ((with_reducible refine Below.trans ?_ (Below.mono (by with_reducible assumption) ?hsz)); (case hsz => (first | omega | (simp; done) | (simp; omega) | (simp at *; omega))))))⟩

end Go.Proofs.YtmgpekdhcghabaaGreat
