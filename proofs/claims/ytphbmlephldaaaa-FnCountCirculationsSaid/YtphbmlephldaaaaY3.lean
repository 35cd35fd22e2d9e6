/- Contracts of the functions of chapter 5 in the program: CountCirculations. -/
import Derived.Test.YtphbmlephldaaaaC3
import Derived.Test.YtphbmlephldaaaaGA
import Derived.Test.YtphbmlephldaaaaF3
import Derived.Test.YtphbmlephldaaaaW3
import Derived.Deep.DeepCutAuto
namespace Go.Proofs.Ytphbmlephldaaaa
open Go.RowKit

/-- what the operations of a count yield -/
def cfV (B : Nat) (nv u : Value) (c a res : Int) (xs : List Int) : Nat → Value → (Nat → Value) → World → Prop
  | 0, x, _, _ => x = .int .i64 c
  | 1, x, _, _ => x = nv
  | 2, x, _, _ => x = u
  | 3, x, _, wx => Ints wx B x xs
  | 4, x, _, _ => x = .int .i64 a
  | 5, x, _, wx => ∃ g, x = .slice (some ⟨g, 0, none⟩) 1 1 ∧ wx.heap[g]? = some (.cells #[.int .i64 a] 3)
  | 6, x, _, wx => Ints wx B x (xs ++ [a])
  | 7, x, _, _ => x = .int .i64 res
  | 8, x, _, _ => x = .int .i64 (c + res)
  | 9, x, _, _ => x = .int .i64 (c + res)
  | _, _, _, _ => True
def cfR : Nat → World → World → Prop
  | 6, _, _ => True
  | _, wx, wy => Below wx.heap.size wx wy

theorem drop_head {ps rest : List Pp} {p : Pp} {k : Nat} (h : ps.drop k = p :: rest) (hk : k < ps.length) : ps[k] = p ∧ ps.drop (k + 1) = rest := by
  rw [List.drop_eq_getElem_cons hk] at h
  injection h with h1 h2
  exact ⟨h1, h2⟩

set_option maxHeartbeats 4000000 in
set_option maxRecDepth 20000 in
theorem countFrom_any (n : Int) (v : Value) (ps : List Pp) (b : Nat) (hok : netOkB n ps = true) (h5 : ps.length ≤ 5) : ∀ (rest : List Pp) (xs : List Int) (u : Value) (b' : Nat) (w : World), ps.drop xs.length = rest → xs.length + rest.length = ps.length → Pipes w b v ps → Ints w b' u xs →
    Calls Try.prog 62 #[.agg #[.int .i64 n, v], u] w fun e w' => e = .returned (.int .i64 (countP n ps rest xs)) ∧ Below w.heap.size w w' := by
  intro rest
  induction rest with
  | nil =>
    intro xs u b' w hd hl hp hx
    have hp0 := hp
    have hx0 := hx
    obtain ⟨A, c, rfl, hcp1, hcp2, hsp, -⟩ := hp.form
    obtain ⟨A0, c0, rfl, hc1, hc2, hsm, -⟩ := hx.form
    unfold maxLen at hc2 hcp2
    have hlen : xs.length = ps.length := by simpa using hl
    have heq : ((xs.length : Int) == (ps.length : Int)) = true := by rw [beq_len, hlen]; simp
    have bx0 := Box2.new w (.int .i64 n) (.slice A ps.length c) 25
    have HL := Lib.hid hlen
    clear hlen hl hd
    go_enter Try.func62, Try.ntmps62
    go_wp2_with fail
    refine (balancedOk_any n _ _ ps xs b b' _ (hp0.keep (by (repeat (first | (with_reducible assumption) | (with_reducible exact Below.refl _ _) | ((with_reducible refine Below.alloc ?_ ?hsz _); (case hsz => (first | omega | (simp; done) | (simp; omega) | (simp at *; omega)))) | ((with_reducible refine Below.setCell ?_ ?hsz _); (case hsz => (first | omega | (simp; done) | (simp; omega) | (simp at *; omega)))) | (with_reducible refine Below.drew ?_) | (with_reducible refine below_drewN ?_ _) | ((with_reducible refine Below.trans ?_ (Below.mono (by with_reducible assumption) ?hsz)); (case hsz => (first | omega | (simp; done) | (simp; omega) | (simp at *; omega)))))))) (hx0.keep (by (repeat (first | (with_reducible assumption) | (with_reducible exact Below.refl _ _) | ((with_reducible refine Below.alloc ?_ ?hsz _); (case hsz => (first | omega | (simp; done) | (simp; omega) | (simp at *; omega)))) | ((with_reducible refine Below.setCell ?_ ?hsz _); (case hsz => (first | omega | (simp; done) | (simp; omega) | (simp at *; omega)))) | (with_reducible refine Below.drew ?_) | (with_reducible refine below_drewN ?_ _) | ((with_reducible refine Below.trans ?_ (Below.mono (by with_reducible assumption) ?hsz)); (case hsz => (first | omega | (simp; done) | (simp; omega) | (simp at *; omega))))))))).mono ?_
    rintro e w1 ⟨rfl, hb1⟩
    by_cases hb : balB n ps xs = true
    · have Hr : Hid (countP n ps [] xs = 1) := Lib.hid (by rw [countP, if_pos hb])
      rw [hb]
      go_wp2
      go_ret
      exact ⟨ret_int Hr.out.symm, by (repeat (first | (with_reducible assumption) | (with_reducible exact Below.refl _ _) | ((with_reducible refine Below.alloc ?_ ?hsz _); (case hsz => (first | omega | (simp; done) | (simp; omega) | (simp at *; omega)))) | ((with_reducible refine Below.setCell ?_ ?hsz _); (case hsz => (first | omega | (simp; done) | (simp; omega) | (simp at *; omega)))) | (with_reducible refine Below.drew ?_) | (with_reducible refine below_drewN ?_ _) | ((with_reducible refine Below.trans ?_ (Below.mono (by with_reducible assumption) ?hsz)); (case hsz => (first | omega | (simp; done) | (simp; omega) | (simp at *; omega))))))⟩
    · have hb' : balB n ps xs = false := by simpa using hb
      have Hr : Hid (countP n ps [] xs = 0) := Lib.hid (by rw [countP, if_neg hb])
      rw [hb']
      go_wp2
      go_ret
      exact ⟨ret_int Hr.out.symm, by (repeat (first | (with_reducible assumption) | (with_reducible exact Below.refl _ _) | ((with_reducible refine Below.alloc ?_ ?hsz _); (case hsz => (first | omega | (simp; done) | (simp; omega) | (simp at *; omega)))) | ((with_reducible refine Below.setCell ?_ ?hsz _); (case hsz => (first | omega | (simp; done) | (simp; omega) | (simp at *; omega)))) | (with_reducible refine Below.drew ?_) | (with_reducible refine below_drewN ?_ _) | ((with_reducible refine Below.trans ?_ (Below.mono (by with_reducible assumption) ?hsz)); (case hsz => (first | omega | (simp; done) | (simp; omega) | (simp at *; omega))))))⟩
  | cons p rest ih =>
    intro xs u b' w hd hl hp hx
    have hp0 := hp
    have hx0 := hx
    obtain ⟨A, c, rfl, hcp1, hcp2, hsp, -⟩ := hp.form
    obtain ⟨A0, c0, rfl, hc1, hc2, hsm, -⟩ := hx.form
    unfold maxLen at hc2 hcp2
    have hk : xs.length < ps.length := by simp at hl; omega
    obtain ⟨hpk, hdr⟩ := drop_head hd hk
    have hrl : rest.length ≤ 4 := by simp at hl; omega
    have hrooms := net_rooms hok
    have hpr := hrooms p (by rw [← hpk]; exact List.getElem_mem hk)
    have hrest : ∀ q ∈ rest, 0 ≤ q.le ∧ q.le ≤ q.mo ∧ q.mo ≤ 4 := fun q hq => hrooms q (by rw [← hdr] at hq; exact List.mem_of_mem_drop hq)
    obtain ⟨gp, rfl, gp1, gp2, cf, ct, cl, cm, -⟩ := hp0.cellAt (Below.refl _ _) xs.length hk
    rw [hpk] at cl cm
    have hne : ((xs.length : Int) == (ps.length : Int)) = false := by rw [beq_len]; exact decide_eq_false (by omega)
    have bx0 := Box2.new w (.int .i64 n) (.slice (some ⟨gp, 0, none⟩) ps.length c) 25
    obtain ⟨pf, pt, le, mo, co⟩ := p
    dsimp only at hpr cl cm
    obtain ⟨hr0, hr1, hr2⟩ := hpr
    have HI := Lib.hid (And.intro hdr (And.intro hl (And.intro hrest (And.intro hrl ih))))
    obtain ⟨K, hK⟩ : ∃ K, xs.length = K := ⟨_, rfl⟩
    have HK := Lib.hid hK
    rw [hK] at hk hc1 hsm hne hx0 cl cm ⊢
    clear cf ct hpk hdr hrest hrl ih hd hl hrooms hx hp hK
    go_enter Try.func62, Try.ntmps62
    go_wp2
    go_loopw [7, 6] (fun t7 t6 wr => ∃ j : Nat, (j : Int) ≤ mo - le + 1 ∧ t7 = .int .i64 (le + (j : Int)) ∧ t6 = .int .i64 (countTo n ps ⟨pf, pt, le, mo, co⟩ rest xs j) ∧ Box2 wr w.heap.size (.int .i64 n) (.slice (some ⟨gp, 0, none⟩) ps.length c) ∧ Below w.heap.size w wr) (fun t7 _ _ => (mo + 1 - intOf t7).toNat)
    case atStart => exact ⟨0, by omega, by simp, by rw [countTo_zero], bx0, by (repeat (first | (with_reducible assumption) | (with_reducible exact Below.refl _ _) | ((with_reducible refine Below.alloc ?_ ?hsz _); (case hsz => (first | omega | (simp; done) | (simp; omega) | (simp at *; omega)))) | ((with_reducible refine Below.setCell ?_ ?hsz _); (case hsz => (first | omega | (simp; done) | (simp; omega) | (simp at *; omega)))) | (with_reducible refine Below.drew ?_) | (with_reducible refine below_drewN ?_ _) | ((with_reducible refine Below.trans ?_ (Below.mono (by with_reducible assumption) ?hsz)); (case hsz => (first | omega | (simp; done) | (simp; omega) | (simp at *; omega))))))⟩
    case round =>
      clear bx0
      obtain ⟨j, hj, rfl, rfl, bx, hB⟩ := hrel
      obtain ⟨bs, d0, d1, -, -⟩ := id bx
      have hzb := hB.size
      have hgr : gp < wr.heap.size := by omega
      have cl' := (hB.cell (p := ⟨gp, K * 5 + 2, none⟩) gp2).trans cl
      have cm' := (hB.cell (p := ⟨gp, K * 5 + 3, none⟩) gp2).trans cm
      obtain ⟨cb1, cb2⟩ := countTo_bd (n := n) (ps := ps) (p := ⟨pf, pt, le, mo, co⟩) (xs := xs) HI.out.2.2.1 HI.out.2.2.2.1 (j := j) (by omega)
      have cb3 := count_bd n ps rest (xs ++ [le + (j : Int)]) HI.out.2.2.1
      have cb4 := pow5 HI.out.2.2.2.1
      have HC := Lib.hid (countTo_succ n ps ⟨pf, pt, le, mo, co⟩ rest xs j)
      have HA := Lib.hid (countTo_all n ps ⟨pf, pt, le, mo, co⟩ rest xs)
      have hcb : 0 ≤ countP n ps rest (xs ++ [le + (j : Int)]) ∧ countP n ps rest (xs ++ [le + (j : Int)]) ≤ 625 := ⟨cb3.1, Int.le_trans cb3.2 cb4⟩
      clear cb3 cb4
      by_cases hlt : le + (j : Int) ≤ mo
      · have hltd : decide (le + (j : Int) ≤ mo) = true := decide_eq_true hlt
        obtain ⟨cnt, hcnt⟩ : ∃ cnt, cnt = countTo n ps ⟨pf, pt, le, mo, co⟩ rest xs j := ⟨_, rfl⟩
        obtain ⟨res, hres⟩ : ∃ res, res = countP n ps rest (xs ++ [le + (j : Int)]) := ⟨_, rfl⟩
        rw [← hcnt] at HC cb1 cb2 ⊢
        rw [← hres] at HC hcb
        have HR := Lib.hid hres
        obtain ⟨am, ham⟩ : ∃ am, am = le + (j : Int) := ⟨_, rfl⟩
        rw [← ham] at HR hltd ⊢
        have HM := Lib.hid ham
        clear hcnt hres ham
        have hK5 : K ≤ 5 := by omega
        go_wp2_with fail
        refine wp_region_flow 9 (some 6) [(0, 34), (1, 35), (2, 36), (3, 37), (4, 38), (5, 39), (6, 40), (7, 41), (8, 42)] (cfV wr.heap.size (.agg #[.int .i64 n, .slice (some ⟨gp, 0, none⟩) ps.length c]) (.slice A0 K c0) cnt am res xs) cfR (fun _ wx => Below wr.heap.size wr wx) (by kernel_rfl) (by kernel_rfl) rfl ⟨rfl, rfl, rfl, Nat.le_refl _, fun _ _ => rfl⟩ ?_ ?_ ?_ ?_
        · intro i k hi hk hal x u wx wy hR hV
          have hi' : i < 10 := hi
          have hk' : k < 10 := hk
          by_cases n6 : i = 6
          · subst n6
            rcases k with _ | _ | _ | _ | _ | _ | _ | _ | _ | _ | k
            all_goals first | exact hV | (exfalso; revert hal; decide) | (exfalso; omega)
          · have hb : Below wx.heap.size wx wy := by
              unfold cfR at hR
              split at hR
              · exact absurd rfl n6
              · exact hR
            rcases k with _ | _ | _ | _ | _ | _ | _ | _ | _ | _ | k
            all_goals first | exact hV | (exfalso; omega) | (exact Ints.keep hV hb) | (obtain ⟨g, h1, h2⟩ := hV; exact ⟨g, h1, heap_keep h2 hb⟩)
        · intro k hk x u u' wx h hV
          have hk' : k < 10 := hk
          rcases k with _ | _ | _ | _ | _ | _ | _ | _ | _ | _ | k
          all_goals first | exact hV | (exfalso; omega)
        · simp only [eachOp, fillF, List.setIfInBounds_toArray, List.set_cons_succ, List.set_cons_zero]
          obtain ⟨i0, hi0, hz0, hz1, hz2⟩ := info_parts int_info
          refine ⟨?_, ?_, ?_, ?_, ?_, ?_, ?_, ?_, ?_, ?_, trivial⟩ <;> intro u f wx hC hd <;> (try simp [allV, useOf, Region.binds] at hd)
          · go_wp2
            exact ⟨_, rfl, rfl, Below.refl _ _, hC⟩
          · have e0 := (bel_cell hC bs).trans d0
            have e1 := (bel_cell hC bs).trans d1
            go_wp2
            exact ⟨_, rfl, rfl, Below.refl _ _, hC⟩
          · go_wp2
            exact ⟨_, rfl, rfl, Below.refl _ _, hC⟩
          · have h2 : u 2 = .slice A0 K c0 := hd
            rw [h2]
            go_wp2_with fail
            refine (cloneInts_any _ xs b' _ (hx0.keep (hB.trans (hC.mono hzb))) (by have := HK.out; omega)).mono ?_
            rintro e w4 ⟨r, rfl, hr, hb4⟩
            go_wp2
            exact ⟨r, rfl, hr.mono hC.size, hb4, hC.trans (hb4.mono hC.size)⟩
          · go_wp2
            exact ⟨_, rfl, rfl, Below.refl _ _, hC⟩
          · have h4 : u 4 = .int .i64 am := hd
            rw [h4]
            go_wp2
            exact ⟨_, rfl, ⟨_, rfl, heap_alloc_new _ _⟩, (Below.refl _ _).alloc (Nat.le_refl _) _, hC.alloc hC.size _⟩
          · obtain ⟨hd3, hd5⟩ := hd
            have h3 : Ints wx wr.heap.size (u 3) xs := hd3
            obtain ⟨g, h6, hh6⟩ : ∃ g, u 5 = .slice (some ⟨g, 0, none⟩) 1 1 ∧ wx.heap[g]? = some (.cells #[.int .i64 am] 3) := hd5
            refine wpList_append_src rfl (.tmp 37) (.tmp 39) 40 rfl wr.heap.size 3 i0 _ 1 8 Try.underlying40 hi0 hz0 hz1 hz2 rfl (by omega) (u 3) (u 5) xs.length 1 _ _ rfl rfl h3.1 (by rw [h6]; exact lit_src hh6 rfl (by simp [Value.oneCell'])) (by have := HK.out; unfold maxLen; omega) (by have := HK.out; omega) hC.size ?_
            intro r w7 hown7 hg7 hat7
            exact wpList_nil ⟨r, rfl, ints_snoc hown7 (by have := HK.out; unfold small; omega), trivial, Below.grown hC hg7 hC.size (fun q hq => (h3.1.lt q hq).1)⟩
          · obtain ⟨hd1, hd6⟩ := hd
            have h1 : u 1 = .agg #[.int .i64 n, .slice (some ⟨gp, 0, none⟩) ps.length c] := hd1
            have h6 : Ints wx wr.heap.size (u 6) (xs ++ [am]) := hd6
            rw [h1]
            go_wp2_with fail
            refine (HI.out.2.2.2.2 (xs ++ [am]) (u 6) _ wx (by rw [List.length_append]; exact HI.out.1) (by have := HI.out.2.1; simp at this ⊢; omega) (hp0.keep (hB.trans (hC.mono hzb))) h6).mono ?_
            rintro e w4 ⟨rfl, hb4⟩
            go_wp2
            exact ⟨_, rfl, by rw [HR.out]; rfl, hb4, hC.trans (hb4.mono hC.size)⟩
          · obtain ⟨hd0, hd7⟩ := hd
            have h0 : u 0 = .int .i64 cnt := hd0
            have h7 : u 7 = .int .i64 res := hd7
            rw [h0, h7]
            go_wp2
            exact ⟨_, rfl, rfl, Below.refl _ _, hC⟩
          · have h8 : u 8 = .int .i64 (cnt + res) := hd
            rw [h8]
            go_wp2
            exact ⟨_, rfl, rfl, Below.refl _ _, hC⟩
        · intro u f wx hC hfin
          have h9 : u 9 = .int .i64 (cnt + res) := hfin 9 (by decide) (by decide)
          simp only [fillEnd, fillF, Act.put, List.setIfInBounds_toArray, List.set_cons_succ, List.set_cons_zero]
          rw [h9]
          have bxx := bx.keep hC
          have hBx := hB.trans (hC.mono hzb)
          clear bx d0 d1 cl' cm' hC hfin
          obtain ⟨bs2, d0, d1, -, -⟩ := id bxx
          have ha0 : 0 ≤ am := by have := HM.out; omega
          have ha1 : am ≤ 4 := by have := HM.out; omega
          go_wp2
          go_roundw
          case rel => exact ⟨j + 1, by have := HM.out; omega, by rw [HM.out]; congr 1; push_cast; omega, by rw [HC.out], bxx, hBx⟩
          case measure => have := HM.out; simp [intOf]; omega
      · have hltd : decide (le + (j : Int) ≤ mo) = false := decide_eq_false hlt
        have hjm : j = (mo - le + 1).toNat := by omega
        subst hjm
        go_wp2
        go_ret
        exact ⟨ret_int HA.out, by (repeat (first | (with_reducible assumption) | (with_reducible exact Below.refl _ _) | ((with_reducible refine Below.alloc ?_ ?hsz _); (case hsz => (first | omega | (simp; done) | (simp; omega) | (simp at *; omega)))) | ((with_reducible refine Below.setCell ?_ ?hsz _); (case hsz => (first | omega | (simp; done) | (simp; omega) | (simp at *; omega)))) | (with_reducible refine Below.drew ?_) | (with_reducible refine below_drewN ?_ _) | ((with_reducible refine Below.trans ?_ (Below.mono (by with_reducible assumption) ?hsz)); (case hsz => (first | omega | (simp; done) | (simp; omega) | (simp at *; omega))))))⟩

set_option maxHeartbeats 1000000 in
set_option maxRecDepth 20000 in
theorem countCirc_any (n : Int) (v : Value) (ps : List Pp) (b : Nat) (w : World) (hp : Pipes w b v ps) :
    Calls Try.prog 22 #[.agg #[.int .i64 n, v]] w fun e w' => e = .returned (.int .i64 (countR n ps)) ∧ Below w.heap.size w w' := by
  have hp0 := hp
  obtain ⟨A, c, rfl, hcp1, hcp2, hsp, -⟩ := hp.form
  unfold maxLen at hcp2
  by_cases hok : netOkB n ps = true
  · by_cases h5 : ps.length ≤ 5
    · have h5d : decide ((5 : Int) < (ps.length : Int)) = false := decide_eq_false (by omega)
      have Hr : Hid (countR n ps = countP n ps ps []) := Lib.hid (by rw [countR, if_pos ⟨hok, h5⟩])
      have HO := Lib.hid (And.intro hok h5)
      clear h5
      go_enter Try.func22, Try.ntmps22
      go_wp2_with (first
        | (go_at_call 32; ((with_reducible refine (netOk_any _ _ ps b _ (hp0.keep (by (repeat (first | (with_reducible assumption) | (with_reducible exact Below.refl _ _) | ((with_reducible refine Below.alloc ?_ ?hsz _); (case hsz => (first | omega | (simp; done) | (simp; omega) | (simp at *; omega)))) | ((with_reducible refine Below.setCell ?_ ?hsz _); (case hsz => (first | omega | (simp; done) | (simp; omega) | (simp at *; omega)))) | (with_reducible refine Below.drew ?_) | (with_reducible refine below_drewN ?_ _) | ((with_reducible refine Below.trans ?_ (Below.mono (by with_reducible assumption) ?hsz)); (case hsz => (first | omega | (simp; done) | (simp; omega) | (simp at *; omega))))))))).mono ?_); rintro e w1 ⟨rfl, hb1⟩; obtain ⟨hc1, hf1, hz1⟩ := bcell hb1; (try simp at hz1); (try have hy1 : w.heap.size < w1.heap.size := by omega); (try have hy2 : w.heap.size + 1 < w1.heap.size := by omega); (try have hy3 : w.heap.size + 1 + 1 < w1.heap.size := by omega))))
      have e0 : w1.cell? ⟨w.heap.size, 0, none⟩ = some (.int .i64 n) := by (first | ((repeat (first | (with_reducible assumption) | ((with_reducible refine (Below.cell (by with_reducible assumption) ?hsz).trans ?_); (case hsz => (first | omega | (simp; done) | (simp; omega) | (simp at *; omega)))) | ((with_reducible refine (World.cell?_alloc_lt _ _ _ ?hsz).trans ?_); (case hsz => (first | omega | (simp; done) | (simp; omega) | (simp at *; omega)))) | ((with_reducible refine (World.cell?_setCell_other _ _ _ _ ?hsz).trans ?_); (case hsz => (intro h; injection h with h1 h2; omega))))); done) | ((repeat (first | (with_reducible assumption) | ((with_reducible refine (Below.cell (by with_reducible assumption) ?hsz).trans ?_); (case hsz => (first | omega | (simp; done) | (simp; omega) | (simp at *; omega)))) | ((with_reducible refine (World.cell?_alloc_lt _ _ _ ?hsz).trans ?_); (case hsz => (first | omega | (simp; done) | (simp; omega) | (simp at *; omega)))) | ((with_reducible refine (World.cell?_setCell_other _ _ _ _ ?hsz).trans ?_); (case hsz => (intro h; injection h with h1 h2; omega))))); simp; done) | (go_simp; done))
      have e1 : w1.cell? ⟨w.heap.size, 1, none⟩ = some (.slice A ps.length c) := by (first | ((repeat (first | (with_reducible assumption) | ((with_reducible refine (Below.cell (by with_reducible assumption) ?hsz).trans ?_); (case hsz => (first | omega | (simp; done) | (simp; omega) | (simp at *; omega)))) | ((with_reducible refine (World.cell?_alloc_lt _ _ _ ?hsz).trans ?_); (case hsz => (first | omega | (simp; done) | (simp; omega) | (simp at *; omega)))) | ((with_reducible refine (World.cell?_setCell_other _ _ _ _ ?hsz).trans ?_); (case hsz => (intro h; injection h with h1 h2; omega))))); done) | ((repeat (first | (with_reducible assumption) | ((with_reducible refine (Below.cell (by with_reducible assumption) ?hsz).trans ?_); (case hsz => (first | omega | (simp; done) | (simp; omega) | (simp at *; omega)))) | ((with_reducible refine (World.cell?_alloc_lt _ _ _ ?hsz).trans ?_); (case hsz => (first | omega | (simp; done) | (simp; omega) | (simp at *; omega)))) | ((with_reducible refine (World.cell?_setCell_other _ _ _ _ ?hsz).trans ?_); (case hsz => (intro h; injection h with h1 h2; omega))))); simp; done) | (go_simp; done))
      refine (countFrom_any n _ ps b HO.out.1 HO.out.2 ps [] _ 0 _ rfl (by simp) (hp0.keep (by (repeat (first | (with_reducible assumption) | (with_reducible exact Below.refl _ _) | ((with_reducible refine Below.alloc ?_ ?hsz _); (case hsz => (first | omega | (simp; done) | (simp; omega) | (simp at *; omega)))) | ((with_reducible refine Below.setCell ?_ ?hsz _); (case hsz => (first | omega | (simp; done) | (simp; omega) | (simp at *; omega)))) | (with_reducible refine Below.drew ?_) | (with_reducible refine below_drewN ?_ _) | ((with_reducible refine Below.trans ?_ (Below.mono (by with_reducible assumption) ?hsz)); (case hsz => (first | omega | (simp; done) | (simp; omega) | (simp at *; omega)))))))) (Ints_nil _ _)).mono ?_
      rintro e w2 ⟨rfl, hb2⟩
      go_wp2
      go_ret
      exact ⟨ret_int Hr.out.symm, by (repeat (first | (with_reducible assumption) | (with_reducible exact Below.refl _ _) | ((with_reducible refine Below.alloc ?_ ?hsz _); (case hsz => (first | omega | (simp; done) | (simp; omega) | (simp at *; omega)))) | ((with_reducible refine Below.setCell ?_ ?hsz _); (case hsz => (first | omega | (simp; done) | (simp; omega) | (simp at *; omega)))) | (with_reducible refine Below.drew ?_) | (with_reducible refine below_drewN ?_ _) | ((with_reducible refine Below.trans ?_ (Below.mono (by with_reducible assumption) ?hsz)); (case hsz => (first | omega | (simp; done) | (simp; omega) | (simp at *; omega))))))⟩
    · have h5d : decide ((5 : Int) < (ps.length : Int)) = true := decide_eq_true (by omega)
      have Hr : Hid (countR n ps = -1) := Lib.hid (by rw [countR, if_neg (fun h => h5 h.2)])
      clear h5
      go_enter Try.func22, Try.ntmps22
      go_wp2_with (first
        | (go_at_call 32; ((with_reducible refine (netOk_any _ _ ps b _ (hp0.keep (by (repeat (first | (with_reducible assumption) | (with_reducible exact Below.refl _ _) | ((with_reducible refine Below.alloc ?_ ?hsz _); (case hsz => (first | omega | (simp; done) | (simp; omega) | (simp at *; omega)))) | ((with_reducible refine Below.setCell ?_ ?hsz _); (case hsz => (first | omega | (simp; done) | (simp; omega) | (simp at *; omega)))) | (with_reducible refine Below.drew ?_) | (with_reducible refine below_drewN ?_ _) | ((with_reducible refine Below.trans ?_ (Below.mono (by with_reducible assumption) ?hsz)); (case hsz => (first | omega | (simp; done) | (simp; omega) | (simp at *; omega))))))))).mono ?_); rintro e w1 ⟨rfl, hb1⟩; obtain ⟨hc1, hf1, hz1⟩ := bcell hb1; (try simp at hz1); (try have hy1 : w.heap.size < w1.heap.size := by omega); (try have hy2 : w.heap.size + 1 < w1.heap.size := by omega); (try have hy3 : w.heap.size + 1 + 1 < w1.heap.size := by omega))))
      go_ret
      exact ⟨ret_int Hr.out.symm, by (repeat (first | (with_reducible assumption) | (with_reducible exact Below.refl _ _) | ((with_reducible refine Below.alloc ?_ ?hsz _); (case hsz => (first | omega | (simp; done) | (simp; omega) | (simp at *; omega)))) | ((with_reducible refine Below.setCell ?_ ?hsz _); (case hsz => (first | omega | (simp; done) | (simp; omega) | (simp at *; omega)))) | (with_reducible refine Below.drew ?_) | (with_reducible refine below_drewN ?_ _) | ((with_reducible refine Below.trans ?_ (Below.mono (by with_reducible assumption) ?hsz)); (case hsz => (first | omega | (simp; done) | (simp; omega) | (simp at *; omega))))))⟩
  · have hok' : netOkB n ps = false := by simpa using hok
    have Hr : Hid (countR n ps = -1) := Lib.hid (by rw [countR, if_neg (fun h => hok h.1)])
    clear hok
    go_enter Try.func22, Try.ntmps22
    go_wp2_with (first
      | (go_at_call 32; ((with_reducible refine (netOk_any _ _ ps b _ (hp0.keep (by (repeat (first | (with_reducible assumption) | (with_reducible exact Below.refl _ _) | ((with_reducible refine Below.alloc ?_ ?hsz _); (case hsz => (first | omega | (simp; done) | (simp; omega) | (simp at *; omega)))) | ((with_reducible refine Below.setCell ?_ ?hsz _); (case hsz => (first | omega | (simp; done) | (simp; omega) | (simp at *; omega)))) | (with_reducible refine Below.drew ?_) | (with_reducible refine below_drewN ?_ _) | ((with_reducible refine Below.trans ?_ (Below.mono (by with_reducible assumption) ?hsz)); (case hsz => (first | omega | (simp; done) | (simp; omega) | (simp at *; omega))))))))).mono ?_); rintro e w1 ⟨rfl, hb1⟩; obtain ⟨hc1, hf1, hz1⟩ := bcell hb1; (try simp at hz1); (try have hy1 : w.heap.size < w1.heap.size := by omega); (try have hy2 : w.heap.size + 1 < w1.heap.size := by omega); (try have hy3 : w.heap.size + 1 + 1 < w1.heap.size := by omega))))
    go_ret
    exact ⟨ret_int Hr.out.symm, by (repeat (first | (with_reducible assumption) | (with_reducible exact Below.refl _ _) | ((with_reducible refine Below.alloc ?_ ?hsz _); (case hsz => (first | omega | (simp; done) | (simp; omega) | (simp at *; omega)))) | ((with_reducible refine Below.setCell ?_ ?hsz _); (case hsz => (first | omega | (simp; done) | (simp; omega) | (simp at *; omega)))) | (with_reducible refine Below.drew ?_) | (with_reducible refine below_drewN ?_ _) | ((with_reducible refine Below.trans ?_ (Below.mono (by with_reducible assumption) ?hsz)); (case hsz => (first | omega | (simp; done) | (simp; omega) | (simp at *; omega))))))⟩

end Go.Proofs.Ytphbmlephldaaaa
