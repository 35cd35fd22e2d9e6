/- Contracts of the functions of chapter 6 in the model: GainOf. -/
import Derived.Test.YtphbmlephldaaaaI2
import Derived.Test.YtphbmlephldaaaaGN36
import Derived.Test.YtphbmlephldaaaaGN7
import Derived.Test.YtphbmlephldaaaaGN21
import Derived.Test.YtphbmlephldaaaaSG
import Derived.Test.YtphbmlephldaaaaGN16
import Derived.Deep.DeepCutAuto
namespace Go.Proofs.Ytphbmlephldaaaa
open Go.RowKit

theorem lit_own6 {w : World} {B g : Nat} {e size : Nat} (hb : B ≤ g) (h : w.heap[g]? = some (.cells #[] e (0, 0))) : w.ownsRow B e size (.slice (some ⟨g, 0, none⟩) 0 0) 0 [] :=
  ⟨by simp, .inr ⟨g, 0, #[], rfl, hb, h, Nat.le_refl _, by simp [maxLen], by simp, by simp⟩⟩
theorem ints_empty6 (w : World) {b g : Nat} (hb : b ≤ w.heap.size) (hg : g = w.heap.size) : Ints (w.alloc (.cells #[] 3)) b (.slice (some ⟨g, 0, none⟩) 0 0) [] := by
  subst hg
  exact ⟨lit_own6 hb (heap_alloc_new _ _), by simp [small]⟩

abbrev ofM (l : List Nat) : List Int := l.map fun s : Nat => (s : Int)

/-- what the operations of a step of the search yield -/
def gmV (B : Nat) (nv u u1 : Value) (many sum st co : Int) (L O : List Int) : Nat → Value → (Nat → Value) → World → Prop
  | 0, x, _, _ => x = nv
  | 1, x, _, _ => x = u
  | 2, x, _, wx => ∃ g, x = .slice (some ⟨g, 0, none⟩) 0 0 ∧ B ≤ g ∧ wx.heap[g]? = some (.cells #[] 3 (0, 0))
  | 3, x, _, _ => x = u1
  | 4, x, _, wx => Ints wx B x L
  | 5, x, _, _ => x = .int .i64 st
  | 6, x, _, wx => ∃ g, x = .slice (some ⟨g, 0, none⟩) 1 1 ∧ wx.heap[g]? = some (.cells #[.int .i64 st] 3)
  | 7, x, _, wx => Ints wx B x (L ++ [st])
  | 8, x, _, _ => x = .int .i64 many
  | 9, x, _, _ => x = .int .i64 sum
  | 10, x, _, _ => x = nv
  | 11, x, _, _ => x = .int .i64 st
  | 12, x, _, _ => x = .int .i64 co
  | 13, x, _, _ => x = .int .i64 (sum + co)
  | 14, x, _, wx => Ints wx B x O
  | 15, x, _, wx => Ints wx B x O
  | _, _, _, _ => True
def gmR : Nat → World → World → Prop
  | 4, wx, wy => ∃ row, wx.grownBy wy row ∧ ∀ q, row = some q → wx.heap[q]? = some (.cells #[] 3 (0, 0))
  | 7, _, _ => True
  | _, wx, wy => Below wx.heap.size wx wy

set_option maxHeartbeats 4000000 in
set_option maxRecDepth 20000 in
theorem searchBase_any (n : Int) (v u : Value) (ps : List Pp) (xs : List Int) (b b' : Nat) (many : Nat) (hh : holdsB n ps xs = true) (hb2 : 2 ≤ many) (hb5 : many ≤ 5)
    (l : List Nat) (u1 : Value) (b1 : Nat) (w : World) (hlb : l.length = many) (hs : ∀ s ∈ l, s < 2 * ps.length) (hp : Pipes w b v ps) (hx : Ints w b' u xs) (h1 : Ints w b1 u1 (ofM l)) (hbw : b1 ≤ w.heap.size) :
    Calls Try.prog 148 #[.agg #[.int .i64 n, v], u, u1, .int .i64 many, .int .i64 (coL ps l)] w fun e w' => ∃ r, e = .returned r ∧ Ints w' b1 r (ofM ((srchM ps (stL ps xs) 0 l).getD [])) ∧ Below w.heap.size w w' := by
  have hp0 := hp
  have hx0 := hx
  have h10 := h1
  obtain ⟨A, c, rfl, -, -, -, -⟩ := hp.form
  obtain ⟨A', c', rfl, -, -, -, -⟩ := hx.form
  obtain ⟨A1, c1, rfl, hc1, hc2, hsm, hcell⟩ := h1.form
  unfold maxLen at hc2
  have hn := holds_net hh
  obtain ⟨hf, -, hlen⟩ := holds_parts hh
  have HB := Lib.hid (And.intro hlen (And.intro (flowOk_parts hf).2.2 (net_rooms hn)))
  have hlS : (ofM l).length = l.length := by simp
  obtain ⟨M, hM⟩ : ∃ M, many = M + 1 := ⟨many - 1, by omega⟩
  have hMl : M < l.length := by omega
  have h0l : 0 < l.length := by omega
  have Hg := Lib.hid (gain_last (ps := ps) hMl h0l (by omega))
  obtain ⟨g, rfl, hg1, hg2, cw, -⟩ := hcell w (Below.refl _ _) M (by rw [hlS]; exact hMl)
  obtain ⟨g', hgg, -, -, cw0, -⟩ := hcell w (Below.refl _ _) 0 (by rw [hlS]; exact h0l)
  injection hgg with hgg
  injection hgg with hgg
  subst hgg
  have cw' : w.cell? ⟨g, M, none⟩ = some (.int .i64 (l[M] : Nat)) := by rw [cw]; simp
  have cw0' : w.cell? ⟨g, 0, none⟩ = some (.int .i64 (l[0] : Nat)) := by rw [cw0]; simp
  have ht := hs l[M] (List.getElem_mem hMl)
  have ht0 := hs l[0] (List.getElem_mem h0l)
  have Hz := Lib.hid (srchM_zero ps (stL ps xs) l)
  rw [hlS, hlb] at hc1 hsm h10 ⊢
  have heq : (((many : Nat) : Int) == ((many : Nat) : Int)) = true := by simp
  have hwr : IntKind.i64.wrap ((many : Int) - 1) = (M : Int) := by rw [IntWalk.i64_in _ (by omega)]; omega
  have hwr2 : wrap64 ((many : Int) - 1) = (M : Int) := by rw [IntWalk.wrap64_in _ (by omega)]; omega
  have hMm : M < many := by omega
  have h0m : 0 < many := by omega
  have bx0 := Box2.new w (.int .i64 n) (.slice A ps.length c) 25
  have hB0 : Below w.heap.size w (w.alloc (.cells #[.int .i64 n, .slice A ps.length c] 25)) := by (repeat (first | (with_reducible assumption) | (with_reducible exact Below.refl _ _) | ((with_reducible refine Below.alloc ?_ ?hsz _); (case hsz => (first | omega | (simp; done) | (simp; omega) | (simp at *; omega)))) | ((with_reducible refine Below.setCell ?_ ?hsz _); (case hsz => (first | omega | (simp; done) | (simp; omega) | (simp at *; omega)))) | (with_reducible refine Below.drew ?_) | (with_reducible refine below_drewN ?_ _) | ((with_reducible refine Below.trans ?_ (Below.mono (by with_reducible assumption) ?hsz)); (case hsz => (first | omega | (simp; done) | (simp; omega) | (simp at *; omega))))))
  clear hs cw cw0 hcell hlS hlb hM hp hh hn hf hlen
  generalize l[M] = t at *
  generalize l[0] = t0 at *
  generalize hco : coL ps l = co at *
  clear hco
  go_enter Try.func148, Try.ntmps148
  go_wp2_with fail
  generalize hW : World.alloc w _ = wr
  obtain ⟨bxr, hBr⟩ : Box2 wr w.heap.size (.int .i64 n) (.slice A ps.length c) ∧ Below w.heap.size w wr := by rw [← hW]; exact ⟨bx0, hB0⟩
  clear bx0 hB0 hW
  obtain ⟨bs, d0, d1, -, -⟩ := id bxr
  have hgr : g < wr.heap.size := by omega
  have r1 := (hBr.cell (p := ⟨g, 0, none⟩) hg2).trans cw0'
  have hd0 := fun p : Bw wr => (bw_cell p bs).trans d0
  have hd1 := fun p : Bw wr => (bw_cell p bs).trans d1
  have hd2 := fun p : Bw wr => (bw_cell p hgr).trans r1
  refine wp_region_bw (by kernel_rfl) (by kernel_rfl) ?_
  repeat (go_big_quiet_step ((go_at_call 134; refine calls_bw (specStep_any t0 n _ _ ps xs b b' _ ((hp0.keep hBr).keep (Bw.h _)) ((hx0.keep hBr).keep (Bw.h _)) ht0 HB.out.1 HB.out.2.1 HB.out.2.2))))
  refine wpQuiet_nil ?_
  rintro _ ⟨pw, rfl⟩
  have bx2 := bxr.keep pw.h
  have hB2 := hBr.trans (pw.h.mono hBr.size)
  obtain ⟨wq, hwq⟩ : ∃ wq, wq = pw.v := ⟨_, rfl⟩
  rw [← hwq] at bx2 hB2 ⊢
  clear hd0 hd1 hd2 hwq r1 d0 d1 bs bxr hgr hBr
  obtain ⟨bs, d0, d1, -, -⟩ := id bx2
  have hgr : g < wq.heap.size := by have := hB2.size; omega
  have r2 := (hB2.cell (p := ⟨g, M, none⟩) hg2).trans cw'
  have hd0 := fun p : Bw wq => (bw_cell p bs).trans d0
  have hd1 := fun p : Bw wq => (bw_cell p bs).trans d1
  have hd2 := fun p : Bw wq => (bw_cell p hgr).trans r2
  go_wp2_with fail
  refine wp_region_bw (by kernel_rfl) (by kernel_rfl) ?_
  repeat (go_big_quiet_step ((go_at_call 134; refine calls_bw (specStep_any t n _ _ ps xs b b' _ ((hp0.keep hB2).keep (Bw.h _)) ((hx0.keep hB2).keep (Bw.h _)) ht HB.out.1 HB.out.2.1 HB.out.2.2))))
  refine wpQuiet_nil ?_
  rintro _ ⟨pw2, rfl⟩
  have hB3 := hB2.trans (pw2.h.mono hB2.size)
  obtain ⟨wz, hwz⟩ : ∃ wz, wz = pw2.v := ⟨_, rfl⟩
  rw [← hwz] at hB3 ⊢
  clear hd0 hd1 hd2 hwz r2 d0 d1 bs bx2 hgr hB2
  have hz3 := hB3.size
  by_cases hneg : co < 0
  · have hnd : decide (co < 0) = true := decide_eq_true hneg
    by_cases hlead : stTo ps t = stFr ps t0
    · have hlb : (stTo ps t == stFr ps t0) = true := by simp [hlead]
      have Hr : Hid (srchM ps (stL ps xs) 0 l = some l) := Lib.hid (by rw [Hz.out, Hg.out, hnd]; simp [hlead])
      clear hlead Hg hneg
      go_wp2
      go_ret
      exact ⟨_, rfl, by rw [Hr.out]; exact h10.keep hB3, hB3⟩
    · have hlb : (stTo ps t == stFr ps t0) = false := by simp [hlead]
      have Hr : Hid (srchM ps (stL ps xs) 0 l = none) := Lib.hid (by rw [Hz.out, Hg.out]; simp [hlead])
      clear hlead Hg hneg
      go_wp2
      go_ret
      exact ⟨_, rfl, by rw [Hr.out]; exact ints_empty6 _ (Nat.le_trans hbw hz3) rfl, by (repeat (first | (with_reducible assumption) | (with_reducible exact Below.refl _ _) | ((with_reducible refine Below.alloc ?_ ?hsz _); (case hsz => (first | omega | (simp; done) | (simp; omega) | (simp at *; omega)))) | ((with_reducible refine Below.setCell ?_ ?hsz _); (case hsz => (first | omega | (simp; done) | (simp; omega) | (simp at *; omega)))) | (with_reducible refine Below.drew ?_) | (with_reducible refine below_drewN ?_ _) | ((with_reducible refine Below.trans ?_ (Below.mono (by with_reducible assumption) ?hsz)); (case hsz => (first | omega | (simp; done) | (simp; omega) | (simp at *; omega))))))⟩
  · have hnd : decide (co < 0) = false := decide_eq_false hneg
    have Hr : Hid (srchM ps (stL ps xs) 0 l = none) := Lib.hid (by rw [Hz.out, Hg.out, hnd]; simp)
    clear Hg hneg
    go_wp2
    go_ret
    exact ⟨_, rfl, by rw [Hr.out]; exact ints_empty6 _ (Nat.le_trans hbw hz3) rfl, by (repeat (first | (with_reducible assumption) | (with_reducible exact Below.refl _ _) | ((with_reducible refine Below.alloc ?_ ?hsz _); (case hsz => (first | omega | (simp; done) | (simp; omega) | (simp at *; omega)))) | ((with_reducible refine Below.setCell ?_ ?hsz _); (case hsz => (first | omega | (simp; done) | (simp; omega) | (simp at *; omega)))) | (with_reducible refine Below.drew ?_) | (with_reducible refine below_drewN ?_ _) | ((with_reducible refine Below.trans ?_ (Below.mono (by with_reducible assumption) ?hsz)); (case hsz => (first | omega | (simp; done) | (simp; omega) | (simp at *; omega))))))⟩

theorem again_len {L many m : Nat} (h : m + 1 + L = many) (hm : many ≤ 5) : ∃ bb : Bool, ((L : Int) == (many : Int) - 1) = bb ∧ bb = decide (m = 0) ∧ IntKind.i64.wrap ((many : Int) - 1) = (many : Int) - 1 ∧ wrap64 ((many : Int) - 1) = (many : Int) - 1 := by
  refine ⟨_, rfl, ?_, IntWalk.i64_in _ (by omega), IntWalk.wrap64_in _ (by omega)⟩
  rw [Bool.eq_iff_iff, beq_iff_eq, decide_eq_true_eq]
  omega

set_option maxHeartbeats 8000000 in
set_option maxRecDepth 20000 in
theorem search_any (n : Int) (v u : Value) (ps : List Pp) (xs : List Int) (b b' : Nat) (many : Nat) (hh : holdsB n ps xs = true) (hb2 : 2 ≤ many) (hb5 : many ≤ 5) :
    ∀ (m : Nat) (l : List Nat) (u1 : Value) (b1 : Nat) (w : World), m + l.length = many → (∀ s ∈ l, s < 2 * ps.length) → Pipes w b v ps → Ints w b' u xs → Ints w b1 u1 (ofM l) → b1 ≤ w.heap.size →
    Calls Try.prog 148 #[.agg #[.int .i64 n, v], u, u1, .int .i64 many, .int .i64 (coL ps l)] w fun e w' => ∃ r, e = .returned r ∧ Ints w' b1 r (ofM ((srchM ps (stL ps xs) m l).getD [])) ∧ Below w.heap.size w w' := by
  intro m
  induction m with
  | zero =>
    intro l u1 b1 w hml hs hp hx h1 hbw
    exact searchBase_any n v u ps xs b b' many hh hb2 hb5 l u1 b1 w (by omega) hs hp hx h1 hbw
  | succ m ih =>
    intro l u1 b1 w hml hs hp hx h1 hbw
    have hp0 := hp
    have hx0 := hx
    have h10 := h1
    obtain ⟨A, c, rfl, hcp1, hcp2, -, -⟩ := hp.form
    obtain ⟨A', c', rfl, -, -, -, -⟩ := hx.form
    obtain ⟨A1, c1, rfl, hc1, hc2, hsm, -⟩ := h1.form
    unfold maxLen at hc2 hcp2
    have hn := holds_net hh
    obtain ⟨hf, -, hlen⟩ := holds_parts hh
    have hl7 := (netOk_parts hn).2.2.1
    have HB := Lib.hid (And.intro hlen (And.intro (flowOk_parts hf).2.2 (And.intro (net_rooms hn) (net_costs hn))))
    have hlS : (ofM l).length = l.length := by simp
    obtain ⟨L, hL⟩ : ∃ L, l.length = L := ⟨_, rfl⟩
    have HL := Lib.hid hL
    rw [hlS, hL] at hc1 hsm h10 ⊢
    rw [hL] at hml
    have hne : ((L : Int) == (many : Int)) = false := by rw [beq_eq_false_iff_ne]; omega
    obtain ⟨bb, hbb1, hbb2, hwr, hwr2⟩ := again_len hml hb5
    have hL4 : L ≤ 4 := by omega
    have hcb := coL_bd HB.out.2.2.2 hs
    obtain ⟨cl, hcl⟩ : ∃ cl, coL ps l = cl := ⟨_, rfl⟩
    have HCL := Lib.hid hcl
    rw [hcl] at hcb ⊢
    have hcl1 : -100 ≤ cl := by omega
    have hcl2 : cl ≤ 100 := by omega
    have HH := Lib.hid (And.intro hs (And.intro hml (And.intro ih (And.intro (srchM_succ ps (stL ps xs) m l) hbb2))))
    have bx0 := Box2.new w (.int .i64 n) (.slice A ps.length c) 25
    have hB0 : Below w.heap.size w (w.alloc (.cells #[.int .i64 n, .slice A ps.length c] 25)) := by (repeat (first | (with_reducible assumption) | (with_reducible exact Below.refl _ _) | ((with_reducible refine Below.alloc ?_ ?hsz _); (case hsz => (first | omega | (simp; done) | (simp; omega) | (simp at *; omega)))) | ((with_reducible refine Below.setCell ?_ ?hsz _); (case hsz => (first | omega | (simp; done) | (simp; omega) | (simp at *; omega)))) | (with_reducible refine Below.drew ?_) | (with_reducible refine below_drewN ?_ _) | ((with_reducible refine Below.trans ?_ (Below.mono (by with_reducible assumption) ?hsz)); (case hsz => (first | omega | (simp; done) | (simp; omega) | (simp at *; omega))))))
    have HhI := Lib.hid hh
    clear hs hml ih hlS hp hx h1 hL hcb hcl hh hn hf hlen hbb2
    go_enter Try.func148, Try.ntmps148
    go_wp2
    go_loopw [17] (fun i wr => ∃ k : Nat, k ≤ 2 * ps.length ∧ i = .int .i64 k ∧ (opens ps xs k).findSome? (stepM ps (stL ps xs) m l) = none ∧ Box2 wr w.heap.size (.int .i64 n) (.slice A ps.length c) ∧ Below w.heap.size w wr) (fun i _ => 2 * ps.length - (intOf i).toNat)
    case atStart => exact ⟨0, by omega, rfl, rfl, bx0, hB0⟩
    case round =>
      clear bx0 hB0
      obtain ⟨k, hk, rfl, hnone, bx, hB⟩ := hrel
      have Hno := Lib.hid hnone
      clear hnone
      obtain ⟨bs, d0, d1, -, -⟩ := id bx
      have hzb := hB.size
      by_cases hlt : k < 2 * ps.length
      · obtain ⟨-, -, -⟩ := st_ends (holds_net HhI.out) hlt
        go_wp2_with fail
        with_reducible refine (specStep_any k n _ _ ps xs b b' _ (hp0.keep hB) (hx0.keep hB) hlt HB.out.1 HB.out.2.1 HB.out.2.2.1).mono ?_
        rintro ee w2 ⟨rfl, hb2'⟩
        have bx2 := bx.keep hb2'
        have hB2 := hB.trans (hb2'.mono hzb)
        have hz2 := hB2.size
        clear bx d0 d1 bs hb2'
        obtain ⟨bs, d0, d1, -, -⟩ := id bx2
        obtain ⟨rm, hrm⟩ : ∃ rm, stRoom ps xs k = rm := ⟨_, rfl⟩
        rw [hrm]
        by_cases ho : 0 < rm
        · have hop : openF ps xs k = true := by rw [openF, hrm]; simpa using ho
          have hdo : decide (rm < 1) = false := decide_eq_false (by omega)
          have Hn : Hid (∀ y, stepM ps (stL ps xs) m l k = y → y = none → (opens ps xs (k + 1)).findSome? (stepM ps (stL ps xs) m l) = none) := Lib.hid fun y h1 h2 => by
            rw [opens_yes hop, List.findSome?_append, Hno.out]; simp [h1.trans h2]
          have Hh : Hid (∀ q, stepM ps (stL ps xs) m l k = some q → srchM ps (stL ps xs) (m + 1) l = some q) := Lib.hid fun q h1 => by
            rw [HH.out.2.2.2.1]
            obtain ⟨rest, hrest⟩ := opens_split hlt hop
            rw [opens_all] at hrest
            have key : ∀ F : Nat → Option (List Nat), F k = some q → (opens ps xs k).findSome? F = none → (stL ps xs).findSome? F = some q := fun F hF hN => by
              rw [hrest, List.findSome?_append, hN]
              simp [hF]
            exact key _ h1 Hno.out
          clear hop ho hrm
          go_wp2_with fail
          with_reducible refine (again_any n _ _ bb _ _ _ l ps xs b b' b1 _ (hp0.keep hB2) (hx0.keep hB2) (h10.keep hB2) HH.out.1 HB.out.1 HB.out.2.1 HB.out.2.2.1).mono ?_
          rintro ee w3 ⟨rfl, hb3⟩
          have bx3 := bx2.keep hb3
          have hB3 := hB2.trans (hb3.mono hz2)
          have hz3 := hB3.size
          clear bx2 d0 d1 bs hb3
          obtain ⟨bs, d0, d1, -, -⟩ := id bx3
          cases hag : againV ps l (stFr ps k) (stTo ps k) bb with
          | true =>
            have Hst : Hid (stepM ps (stL ps xs) m l k = none) := Lib.hid (by rw [stepM, again_eq, ← HH.out.2.2.2.2, hag]; rfl)
            clear hag
            go_wp2
            go_roundw
            case rel => exact ⟨k + 1, by omega, by go_num, Hn.out _ Hst.out rfl, bx3, hB3⟩
            case measure => simp [intOf]; omega
          | false =>
            have Hst : Hid (stepM ps (stL ps xs) m l k = srchM ps (stL ps xs) m (l ++ [k])) := Lib.hid (by rw [stepM, again_eq, ← HH.out.2.2.2.2, hag]; rfl)
            clear hag
            go_wp2_with fail
            have hOl : ∀ q, srchM ps (stL ps xs) m (l ++ [k]) = some q → q.length = many := fun q hq => by
              have := srchM_len _ _ _ _ _ hq
              have := HH.out.2.1
              have := HL.out
              simp at *
              omega
            obtain ⟨O, hO⟩ : ∃ O, ofM ((srchM ps (stL ps xs) m (l ++ [k])).getD []) = O := ⟨_, rfl⟩
            have HO := Lib.hid (And.intro hO hOl)
            clear hO hOl
            obtain ⟨co, hco⟩ : ∃ co, stCo ps k = co := ⟨_, rfl⟩
            have HCo := Lib.hid hco
            have hcb := stCo_bd HB.out.2.2.2 hlt
            rw [hco] at hcb
            obtain ⟨hco1, hco2⟩ := hcb
            clear hco
            refine wp_region_flow 16 none [(0, 88), (1, 89), (2, 90), (3, 91), (4, 92), (5, 93), (6, 94), (7, 95), (8, 96), (9, 97), (10, 98), (11, 99), (12, 100), (13, 101), (14, 102), (15, 21)] (gmV w3.heap.size (.agg #[.int .i64 n, .slice A ps.length c]) (.slice A' xs.length c') (.slice A1 L c1) many cl k co (ofM l) O) gmR (fun _ wx => Below w3.heap.size w3 wx) (by kernel_rfl) (by kernel_rfl) rfl ⟨rfl, rfl, rfl, Nat.le_refl _, fun _ _ => rfl⟩ ?_ ?_ ?_ ?_
            · intro i j hi hj hal x u wx wy hR hV
              have hi' : i < 16 := hi
              have hj' : j < 16 := hj
              by_cases n4 : i = 4
              · subst n4
                obtain ⟨row, hg, hrow⟩ := hR
                rcases j with _ | _ | _ | _ | _ | _ | _ | _ | _ | _ | _ | _ | _ | _ | _ | _ | j
                all_goals first | exact hV | (exfalso; revert hal; decide) | (exfalso; omega) | skip
                obtain ⟨g, h1, h2⟩ := hV
                refine ⟨g, h1, heap_grown h2 hg fun e => ?_⟩
                have hc := hrow g e.symm
                rw [h2] at hc
                injection hc with hc
                injection hc with hc _ _
                exact absurd hc (by simp)
              · by_cases n7 : i = 7
                · subst n7
                  rcases j with _ | _ | _ | _ | _ | _ | _ | _ | _ | _ | _ | _ | _ | _ | _ | _ | j
                  all_goals first | exact hV | (exfalso; revert hal; decide) | (exfalso; omega)
                · have hb : Below wx.heap.size wx wy := by
                    unfold gmR at hR
                    split at hR
                    · exact absurd rfl n4
                    · exact absurd rfl n7
                    · exact hR
                  rcases j with _ | _ | _ | _ | _ | _ | _ | _ | _ | _ | _ | _ | _ | _ | _ | _ | j
                  all_goals first | exact hV | (exfalso; omega) | (exact Ints.keep hV hb) | (obtain ⟨g, h1, h2⟩ := hV; exact ⟨g, h1, heap_keep h2 hb⟩) | (obtain ⟨g, h1, h2, h3⟩ := hV; exact ⟨g, h1, h2, heap_keep h3 hb⟩)
            · intro j hj x u u' wx h hV
              have hj' : j < 16 := hj
              rcases j with _ | _ | _ | _ | _ | _ | _ | _ | _ | _ | _ | _ | _ | _ | _ | _ | j
              all_goals first | exact hV | (exfalso; omega)
            · simp only [eachOp, fillF, List.setIfInBounds_toArray, List.set_cons_succ, List.set_cons_zero]
              obtain ⟨i0, hi0, hz0, hz1, hz2'⟩ := info_parts int_info
              refine ⟨?_, ?_, ?_, ?_, ?_, ?_, ?_, ?_, ?_, ?_, ?_, ?_, ?_, ?_, ?_, ?_, trivial⟩ <;> intro u f wx hC hd <;> (try simp [allV, useOf, Region.binds] at hd)
              · have e0 := (bel_cell hC bs).trans d0
                have e1 := (bel_cell hC bs).trans d1
                go_wp2
                exact ⟨_, rfl, rfl, Below.refl _ _, hC⟩
              · go_wp2
                exact ⟨_, rfl, rfl, Below.refl _ _, hC⟩
              · go_wp2
                exact ⟨_, rfl, ⟨_, rfl, hC.size, heap_alloc_new _ _⟩, (Below.refl _ _).alloc (Nat.le_refl _) _, hC.alloc hC.size _⟩
              · go_wp2
                exact ⟨_, rfl, rfl, Below.refl _ _, hC⟩
              · obtain ⟨hd2, hd3⟩ := hd
                obtain ⟨g, h2, hg2, hh2⟩ : ∃ g, u 2 = .slice (some ⟨g, 0, none⟩) 0 0 ∧ w3.heap.size ≤ g ∧ wx.heap[g]? = some (.cells #[] 3 (0, 0)) := hd2
                have h3 : u 3 = .slice A1 L c1 := hd3
                have hsrc : SrcOk wx 1 (.slice A1 L c1) L ((ofM l).map (Value.int .i64)) := by
                  have := (h10.keep (hB3.trans (hC.mono hz3))).src
                  rw [List.length_map, HL.out] at this
                  exact this
                refine wpList_append_src rfl (.tmp 90) (.tmp 91) 40 rfl w3.heap.size 3 i0 _ 1 8 Try.underlying40 hi0 hz0 hz1 hz2' rfl (by omega) (u 2) (u 3) 0 L _ _ rfl rfl (by rw [h2]; exact lit_own6 hg2 hh2) (by rw [h3]; exact hsrc) (by unfold maxLen; omega) (by omega) hC.size ?_
                intro r w7 hown7 hg7 hat7
                rw [Nat.zero_add, List.nil_append] at hown7
                have hrow : ∀ q, (u 2).ownBlock = some q → g = q := fun q hq => by rw [h2] at hq; injection hq
                refine wpList_nil ⟨r, rfl, ⟨by rw [List.length_map, HL.out]; exact hown7, by rw [List.length_map, HL.out]; unfold small; omega⟩, ⟨_, hg7, fun q hq => ?_⟩, Below.grown hC hg7 hC.size (fun q hq => by have := hrow q hq; omega)⟩
                have := hrow q hq
                subst this
                exact hh2
              · go_wp2
                exact ⟨_, rfl, rfl, Below.refl _ _, hC⟩
              · rw [show u 5 = _ from hd]
                go_wp2
                exact ⟨_, rfl, ⟨_, rfl, heap_alloc_new _ _⟩, (Below.refl _ _).alloc (Nat.le_refl _) _, hC.alloc hC.size _⟩
              · obtain ⟨hd3, hd5⟩ := hd
                have h3 : Ints wx w3.heap.size (u 4) (ofM l) := hd3
                have h3' := h3.1
                rw [List.length_map, HL.out] at h3'
                obtain ⟨g, h6, hh6⟩ : ∃ g, u 6 = .slice (some ⟨g, 0, none⟩) 1 1 ∧ wx.heap[g]? = some (.cells #[.int .i64 (k : Int)] 3) := hd5
                refine wpList_append_src rfl (.tmp 92) (.tmp 94) 40 rfl w3.heap.size 3 i0 _ 1 8 Try.underlying40 hi0 hz0 hz1 hz2' rfl (by omega) (u 4) (u 6) L 1 _ _ rfl rfl h3' (by rw [h6]; exact lit_src hh6 rfl (by simp [Value.oneCell'])) (by unfold maxLen; omega) (by omega) hC.size ?_
                intro r w7 hown7 hg7 hat7
                exact wpList_nil ⟨r, rfl, ints_snoc (by rw [List.length_map, HL.out]; exact hown7) (by rw [List.length_map, HL.out]; unfold small; omega), trivial, Below.grown hC hg7 hC.size (fun q hq => (h3.1.lt q hq).1)⟩
              · go_wp2
                exact ⟨_, rfl, rfl, Below.refl _ _, hC⟩
              · go_wp2
                exact ⟨_, rfl, rfl, Below.refl _ _, hC⟩
              · have e0 := (bel_cell hC bs).trans d0
                have e1 := (bel_cell hC bs).trans d1
                go_wp2
                exact ⟨_, rfl, rfl, Below.refl _ _, hC⟩
              · go_wp2
                exact ⟨_, rfl, rfl, Below.refl _ _, hC⟩
              · rw [show u 10 = _ from hd.1, show u 11 = _ from hd.2]
                go_wp2_with fail
                refine (l6Cost_any k n _ ps b wx (hp0.keep (hB3.trans (hC.mono hz3))) hlt HB.out.2.2.2).mono ?_
                rintro ee w4 ⟨rfl, hb4⟩
                rw [HCo.out]
                go_wp2
                exact ⟨_, rfl, rfl, hb4, hC.trans (hb4.mono hC.size)⟩
              · rw [show u 9 = _ from hd.1, show u 12 = _ from hd.2]
                go_wp2
                exact ⟨_, rfl, rfl, Below.refl _ _, hC⟩
              · obtain ⟨e0, e1, e7, e8, e13⟩ : u 0 = .agg #[.int .i64 n, .slice A ps.length c] ∧ u 1 = .slice A' xs.length c' ∧ Ints wx w3.heap.size (u 7) (ofM l ++ [(k : Int)]) ∧ u 8 = .int .i64 many ∧ u 13 = .int .i64 (cl + co) := hd
                rw [e0, e1, e8, e13]
                have hcc : cl + co = coL ps (l ++ [k]) := by rw [coL_snoc, HCL.out, HCo.out]
                have he7 : Ints wx w3.heap.size (u 7) (ofM (l ++ [k])) := by
                  have e : ofM (l ++ [k]) = ofM l ++ [(k : Int)] := by simp
                  rw [e]; exact e7
                rw [hcc]
                go_wp2_with fail
                refine (HH.out.2.2.1 (l ++ [k]) (u 7) w3.heap.size wx (by have := HH.out.2.1; have := HL.out; simp; omega) (fun t ht => by
                  rcases List.mem_append.1 ht with ht | ht
                  · exact HH.out.1 t ht
                  · simp at ht; subst ht; exact hlt) (hp0.keep (hB3.trans (hC.mono hz3))) (hx0.keep (hB3.trans (hC.mono hz3))) he7 hC.size).mono ?_
                rintro ee w4 ⟨r, rfl, hr, hb4⟩
                rw [HO.out.1] at hr
                go_wp2
                exact ⟨_, rfl, hr, hb4, hC.trans (hb4.mono hC.size)⟩
              · go_wp2
                exact ⟨_, rfl, hd, Below.refl _ _, hC⟩
            · intro u f wx hC hfin
              have h15 : Ints wx w3.heap.size (u 15) O := hfin 15 (by decide) (by decide)
              simp only [fillEnd, fillF, Act.put, List.setIfInBounds_toArray, List.set_cons_succ, List.set_cons_zero]
              have bx4 := bx3.keep hC
              have hB4 := hB3.trans (hC.mono hz3)
              clear bx3 d0 d1 bs hC hfin
              obtain ⟨bs, d0, d1, -, -⟩ := id bx4
              have h150 := h15
              obtain ⟨Ar, cr, hur, hr1, hr2, -, -⟩ := h15.form
              rw [hur] at h150 ⊢
              obtain ⟨Z, hZ⟩ : ∃ Z, O.length = Z := ⟨_, rfl⟩
              have HZ := Lib.hid hZ
              rw [hZ] at h150 ⊢
              clear h15 hur hZ hr1
              cases hst : srchM ps (stL ps xs) m (l ++ [k]) with
              | none =>
                have Hz0 := Lib.hid (Hn.out none (Hst.out.trans hst) rfl)
                have hz0 : Z = 0 := by
                  have := HZ.out
                  rw [← HO.out.1, hst] at this
                  simpa using this.symm
                have hzd : decide (0 < Z) = false := decide_eq_false (by omega)
                clear hst hz0
                go_wp2
                go_roundw
                case rel => exact ⟨k + 1, by omega, by go_num, Hz0.out, bx4, hB4⟩
                case measure => simp [intOf]; omega
              | some q =>
                have Hq := Lib.hid (Hh.out q (Hst.out.trans hst))
                have hz0 : Z = many := by
                  have h1 := HZ.out
                  have h2 := HO.out.2 q hst
                  rw [← HO.out.1, hst] at h1
                  simp at h1
                  omega
                have hzd : decide (0 < Z) = true := decide_eq_true (by omega)
                have hOq : Hid (O = ofM q) := Lib.hid (by rw [← HO.out.1, hst]; rfl)
                clear hst hz0
                go_wp2
                go_ret
                exact ⟨_, rfl, by rw [Hq.out]; simp only [Option.getD_some]; rw [← hOq.out]; exact h150.mono (by omega), hB4⟩
        · have hop : openF ps xs k = false := by rw [openF, hrm]; simpa using ho
          have hdo : decide (rm < 1) = true := decide_eq_true (by omega)
          have Hn : Hid ((opens ps xs (k + 1)).findSome? (stepM ps (stL ps xs) m l) = none) := Lib.hid (by rw [opens_no hop]; exact Hno.out)
          clear hop ho hrm
          go_wp2
          go_roundw
          case rel => exact ⟨k + 1, by omega, by go_num, Hn.out, bx2, hB2⟩
          case measure => simp [intOf]; omega
      · have Hr : Hid (srchM ps (stL ps xs) (m + 1) l = none) := Lib.hid (by
          have hkk : k = 2 * ps.length := by omega
          have := Hno.out
          rw [hkk, opens_all] at this
          rw [HH.out.2.2.2.1]; exact this)
        go_wp2
        go_ret
        exact ⟨_, rfl, by rw [Hr.out]; exact ints_empty6 _ (by omega) rfl, by (repeat (first | (with_reducible assumption) | (with_reducible exact Below.refl _ _) | ((with_reducible refine Below.alloc ?_ ?hsz _); (case hsz => (first | omega | (simp; done) | (simp; omega) | (simp at *; omega)))) | ((with_reducible refine Below.setCell ?_ ?hsz _); (case hsz => (first | omega | (simp; done) | (simp; omega) | (simp at *; omega)))) | (with_reducible refine Below.drew ?_) | (with_reducible refine below_drewN ?_ _) | ((with_reducible refine Below.trans ?_ (Below.mono (by with_reducible assumption) ?hsz)); (case hsz => (first | omega | (simp; done) | (simp; omega) | (simp at *; omega))))))⟩

/-- both seek the same -/
theorem gainO_M {n : Int} {ps : List Pp} {xs : List Int} (hh : holdsB n ps xs = true) : gainO n ps xs = (List.range (n.toNat - 1)).findSome? fun i => srchM ps (stL ps xs) (i + 2) [] := by
  rw [gainO, if_pos hh]
  exact findSome_congr fun i _ => (srchM_eq (stL_ends (holds_net hh)) _).symm

set_option maxHeartbeats 4000000 in
set_option maxRecDepth 20000 in
theorem specGainOf_any (n : Int) (v u : Value) (ps : List Pp) (xs : List Int) (b b' : Nat) (w : World) (hp : Pipes w b v ps) (hx : Ints w b' u xs) :
    Calls Try.prog 136 #[.agg #[.int .i64 n, v], u] w fun e w' => ∃ r, e = .returned (.tuple #[r, .bool (gainsB n ps xs)]) ∧ Ints w' w.heap.size r (gainI n ps xs) ∧ Below w.heap.size w w' := by
  have hp0 := hp
  have hx0 := hx
  obtain ⟨A, c, rfl, -, -, -, -⟩ := hp.form
  obtain ⟨A', c', rfl, -, -, -, -⟩ := hx.form
  have bx0 := Box2.new w (.int .i64 n) (.slice A ps.length c) 25
  have hB0 : Below w.heap.size w (w.alloc (.cells #[.int .i64 n, .slice A ps.length c] 25)) := by (repeat (first | (with_reducible assumption) | (with_reducible exact Below.refl _ _) | ((with_reducible refine Below.alloc ?_ ?hsz _); (case hsz => (first | omega | (simp; done) | (simp; omega) | (simp at *; omega)))) | ((with_reducible refine Below.setCell ?_ ?hsz _); (case hsz => (first | omega | (simp; done) | (simp; omega) | (simp at *; omega)))) | (with_reducible refine Below.drew ?_) | (with_reducible refine below_drewN ?_ _) | ((with_reducible refine Below.trans ?_ (Below.mono (by with_reducible assumption) ?hsz)); (case hsz => (first | omega | (simp; done) | (simp; omega) | (simp at *; omega))))))
  by_cases hh : holdsB n ps xs = true
  · have hn := holds_net hh
    obtain ⟨n2, n5, hl7, -⟩ := netOk_parts hn
    have HF := Lib.hid (gainO_M hh)
    have HN := Lib.hid hh
    obtain ⟨N, rfl⟩ := Int.eq_ofNat_of_zero_le (show 0 ≤ n by omega)
    clear hn hh
    go_enter Try.func136, Try.ntmps136
    go_wp2_with fail
    go_loopw [6] (fun i wr => ∃ k : Nat, k + 2 ≤ N + 1 ∧ i = .int .i64 ((k + 2 : Nat) : Int) ∧ (List.range k).findSome? (fun i => srchM ps (stL ps xs) (i + 2) []) = none ∧ Box2 wr w.heap.size (.int .i64 N) (.slice A ps.length c) ∧ Below w.heap.size w wr) (fun i _ => N + 1 - (intOf i).toNat)
    case atStart => exact ⟨0, by omega, rfl, rfl, bx0, hB0⟩
    case round =>
      clear bx0 hB0
      obtain ⟨k, hk, rfl, hnone, bx, hB⟩ := hrel
      obtain ⟨bs, d0, d1, -, -⟩ := id bx
      have Hno := Lib.hid hnone
      clear hnone
      have hzb := hB.size
      obtain ⟨K, hK⟩ : ∃ K, k + 2 = K := ⟨_, rfl⟩
      have HK := Lib.hid hK
      rw [hK]
      have hK2 : 2 ≤ K := by omega
      have hkN : K ≤ N + 1 := by omega
      clear hK hk
      go_wp2_with fail
      refine (specHoldsOk_any N _ _ ps xs b b' _ (hp0.keep hB) (hx0.keep hB)).mono ?_
      rintro e w1 ⟨rfl, hb1⟩
      rw [HN.out]
      have bx1 := bx.keep hb1
      have hB1 := hB.trans (hb1.mono hzb)
      have hz1 := hB1.size
      clear bx hb1 d0 d1 bs
      obtain ⟨bs, d0, d1, -, -⟩ := id bx1
      by_cases hlt : K ≤ N
      · have hle : decide ((K : Int) ≤ (N : Int)) = true := decide_eq_true (by omega)
        go_wp2_with fail
        have hB1' : Below w.heap.size w (w1.alloc (.cells #[] 3)) := by (repeat (first | (with_reducible assumption) | (with_reducible exact Below.refl _ _) | ((with_reducible refine Below.alloc ?_ ?hsz _); (case hsz => (first | omega | (simp; done) | (simp; omega) | (simp at *; omega)))) | ((with_reducible refine Below.setCell ?_ ?hsz _); (case hsz => (first | omega | (simp; done) | (simp; omega) | (simp at *; omega)))) | (with_reducible refine Below.drew ?_) | (with_reducible refine below_drewN ?_ _) | ((with_reducible refine Below.trans ?_ (Below.mono (by with_reducible assumption) ?hsz)); (case hsz => (first | omega | (simp; done) | (simp; omega) | (simp at *; omega))))))
        refine (search_any N _ _ ps xs b b' K HN.out hK2 (by omega) K [] _ w.heap.size _ rfl (by simp) (hp0.keep hB1') (hx0.keep hB1') (ints_empty6 _ hz1 rfl) (by simp; omega)).mono ?_
        rintro e w3 ⟨r3, rfl, hr3, hb3⟩
        have bx2 := bx1.keep ((Below.refl w1.heap.size w1).alloc (Nat.le_refl _) (.cells #[] 3))
        have bx3 := bx2.keep hb3
        have hB3 := hB1'.trans (hb3.mono (by simp; omega))
        have hz3 := hB3.size
        clear bx1 bx2 d0 d1 bs hb3
        obtain ⟨bs, d0, d1, -, -⟩ := id bx3
        obtain ⟨O, hO⟩ : ∃ O, ofM ((srchM ps (stL ps xs) K []).getD []) = O := ⟨_, rfl⟩
        rw [hO] at hr3
        have h150 := hr3
        obtain ⟨Ar, cr, rfl, hr1, hr2, -, -⟩ := hr3.form
        obtain ⟨Z, hZ⟩ : ∃ Z, O.length = Z := ⟨_, rfl⟩
        rw [hZ] at h150 ⊢
        clear hr3 hr1
        cases hst : srchM ps (stL ps xs) K [] with
        | none =>
          have hz0 : Z = 0 := by
            rw [hst] at hO
            rw [← hO] at hZ
            simpa using hZ.symm
          have hzd : decide (0 < Z) = false := decide_eq_false (by omega)
          have Hno2 : Hid ((List.range (k + 1)).findSome? (fun i => srchM ps (stL ps xs) (i + 2) []) = none) := Lib.hid (by
            rw [List.range_succ, List.findSome?_append, Hno.out]
            simp [HK.out, hst])
          clear hst hz0 hZ hO
          go_wp2
          go_roundw
          case rel => exact ⟨k + 1, by have := HK.out; omega, by have := HK.out; subst this; go_num, Hno2.out, bx3, hB3⟩
          case measure => simp [intOf]; omega
        | some q =>
          have hz0 : Z = K := by
            have h2 := srchM_len _ _ _ _ _ hst
            rw [hst] at hO
            rw [← hO] at hZ
            simp at hZ h2
            omega
          have hzd : decide (0 < Z) = true := decide_eq_true (by omega)
          have hOq : Hid (O = ofM q) := Lib.hid (by rw [← hO, hst]; rfl)
          have Hg : Hid (gainO N ps xs = some q) := Lib.hid (by
            rw [HF.out]
            have hkk : k < (List.range ((N : Int).toNat - 1)).length := by have := HK.out; simp; omega
            refine findSome_hit hkk ?_ ?_
            · rw [List.take_range, Nat.min_eq_left (by simpa using Nat.le_of_lt hkk)]; exact Hno.out
            · simp [HK.out, hst])
          clear hst hz0 hZ hO
          go_wp2
          go_ret2
          exact ⟨_, ret_vb (by rw [gainsB, Hg.out]; rfl), by rw [gainI, gainR, Hg.out, Option.getD_some]; have h9 := h150; rw [hOq.out] at h9; exact h9, hB3⟩
      · have hle : decide ((K : Int) ≤ (N : Int)) = false := decide_eq_false (by omega)
        have Hg : Hid (gainO N ps xs = none) := Lib.hid (by
          rw [HF.out]
          have : (N : Int).toNat - 1 = k := by have := HK.out; omega
          rw [this]; exact Hno.out)
        go_wp2
        go_ret2
        exact ⟨_, ret_vb (by rw [gainsB, Hg.out]; rfl), by rw [gainI, gainR, Hg.out]; exact ints_empty6 _ hz1 rfl, by (repeat (first | (with_reducible assumption) | (with_reducible exact Below.refl _ _) | ((with_reducible refine Below.alloc ?_ ?hsz _); (case hsz => (first | omega | (simp; done) | (simp; omega) | (simp at *; omega)))) | ((with_reducible refine Below.setCell ?_ ?hsz _); (case hsz => (first | omega | (simp; done) | (simp; omega) | (simp at *; omega)))) | (with_reducible refine Below.drew ?_) | (with_reducible refine below_drewN ?_ _) | ((with_reducible refine Below.trans ?_ (Below.mono (by with_reducible assumption) ?hsz)); (case hsz => (first | omega | (simp; done) | (simp; omega) | (simp at *; omega))))))⟩
  · have hh' : holdsB n ps xs = false := by simpa using hh
    have Hg : Hid (gainsB n ps xs = false ∧ gainI n ps xs = []) := Lib.hid ⟨gains_no hh', gainI_no (gains_no hh')⟩
    have Hh := Lib.hid hh'
    clear hh hh'
    go_enter Try.func136, Try.ntmps136
    go_wp2_with fail
    go_loopw [6] (fun i wr => i = .int .i64 2 ∧ Box2 wr w.heap.size (.int .i64 n) (.slice A ps.length c) ∧ Below w.heap.size w wr) (fun _ _ => 0)
    case atStart => exact ⟨rfl, bx0, hB0⟩
    case round =>
      clear bx0 hB0
      obtain ⟨rfl, bx, hB⟩ := hrel
      obtain ⟨bs, d0, d1, -, -⟩ := id bx
      have hzb := hB.size
      go_wp2_with fail
      refine (specHoldsOk_any n _ _ ps xs b b' _ (hp0.keep hB) (hx0.keep hB)).mono ?_
      rintro e w1 ⟨rfl, hb1⟩
      rw [Hh.out]
      have hB1 := hB.trans (hb1.mono hzb)
      have hz1 := hB1.size
      go_wp2
      go_ret2
      exact ⟨_, ret_vb Hg.out.1.symm, by rw [Hg.out.2]; exact ints_empty6 _ hz1 rfl, by (repeat (first | (with_reducible assumption) | (with_reducible exact Below.refl _ _) | ((with_reducible refine Below.alloc ?_ ?hsz _); (case hsz => (first | omega | (simp; done) | (simp; omega) | (simp at *; omega)))) | ((with_reducible refine Below.setCell ?_ ?hsz _); (case hsz => (first | omega | (simp; done) | (simp; omega) | (simp at *; omega)))) | (with_reducible refine Below.drew ?_) | (with_reducible refine below_drewN ?_ _) | ((with_reducible refine Below.trans ?_ (Below.mono (by with_reducible assumption) ?hsz)); (case hsz => (first | omega | (simp; done) | (simp; omega) | (simp at *; omega))))))⟩

end Go.Proofs.Ytphbmlephldaaaa
