/-
  (grid).rise: the fronts by rising costs, from the first one on, till the end is reached.
-/
import Derived.Test.YtmonemgjgcfhlaaTrail
import Derived.Deep.LoopGhost
import Derived.OwnWalk
namespace Go.Proofs.Ytmonemgjgcfhlaa
open Go.RowKit

theorem own_mono {w : World} {base base' : Nat} {e : TypeId} {size : Nat} {v : Value} {n : Nat} {xs : List Value} (h : w.ownsRow base e size v n xs) (hb : base' ≤ base) : w.ownsRow base' e size v n xs :=
  ⟨h.1, h.2.imp id fun ⟨g, cap, cur, h1, h2, h3⟩ => ⟨g, cap, cur, h1, Nat.le_trans hb h2, h3⟩⟩

set_option maxHeartbeats 4000000 in
set_option maxRecDepth 100000 in
theorem rise_any (f0 : Fr) (X Y : Option Addr) (xs ys : List Int) (cx cy : Nat) (w : World) (hf : f0.own w) (hx : Ints w w.heap.size X xs) (hy : Ints w w.heap.size Y ys) (hok : Pm.FrontOk xs ys 0 f0.low f0.far) (hlen : xs.length + ys.length ≤ 256) :
    Calls Try.prog 45 #[.agg #[.slice X xs.length cx, .slice Y ys.length cy], .agg #[.int .i64 f0.low, f0.val], .int .i64 257] w fun e w' =>
      ∃ v L, e = .returned (.tuple #[v, .bool true]) ∧ L.length = Pm.D xs ys xs.length ys.length ∧ Fronts w xs ys (.slice X xs.length cx) (.slice Y ys.length cy) w.heap.size L v w' := by
  have HF0 : Hid (Fronts w xs ys (.slice X xs.length cx) (.slice Y ys.length cy) w.heap.size [f0] (.slice (some ⟨w.heap.size + 2, 0, none⟩) 1 1) ((((w.alloc (.cells #[.slice X xs.length cx, .slice Y ys.length cy] 51)).alloc (.cells #[.int .i64 f0.low, f0.val] 56))).alloc (.cells #[.int .i64 f0.low, f0.val] 56))) := by
    refine Lib.hid ⟨?_, ?_, ?_, ?_, ?_⟩
    · have h := World.ownsRow_lit (base := w.heap.size) (e := 56) (size := 2) ((w.alloc (.cells #[.slice X xs.length cx, .slice Y ys.length cy] 51)).alloc (.cells #[.int .i64 f0.low, f0.val] 56)) #[.int .i64 f0.low, f0.val] 1 (by simp; omega) (by decide) rfl
      simpa [frCells, Fr.cells] using h
    · intro f hm
      simp at hm
      subst hm
      exact World.ownsRow.alloc (World.ownsRow.alloc (World.ownsRow.alloc hf _) _) _
    · intro t f ht
      cases t with
      | zero => simp at ht; subst ht; exact hok
      | succ t => simp at ht
    · exact ((Blk.new w 51 _).alloc _).alloc _
    · exact (((Below.refl _ _).alloc (Nat.le_refl _) _).alloc (by simp) _).alloc (by simp; omega) _
  have hval : f0.val = .slice f0.A f0.far.length f0.cap := rfl
  generalize f0.val = v0 at hval HF0 ⊢
  subst hval
  go_enter Try.func45, Try.ntmps45
  go_wp2_with fail
  go_step3
  go_wp2_with fail
  go_step3
  go_wp2_with fail
  have hF0 := HF0.out
  go_loopg [6, 7] 256 (fun g s6 s7 wr => ∃ L, L.length + g = 257 ∧ 1 ≤ L.length ∧ s7 = .bool false ∧ Fronts w xs ys (.slice X xs.length cx) (.slice Y ys.length cy) w.heap.size L s6 wr)
  case atStart => exact ⟨[f0], rfl, Nat.le_refl _, rfl, hF0⟩
  case round =>
    clear hF0
    obtain ⟨L, hLg, hL1, rfl, hF⟩ := hrel
    obtain ⟨n, hn⟩ : ∃ n, L.length = n + 1 := ⟨L.length - 1, by omega⟩
    obtain ⟨f, hfn⟩ : ∃ f, L[n]? = some f := ⟨_, List.getElem?_eq_getElem (by omega)⟩
    have hfok := hF.ok n f hfn
    have hgo := hfok.going
    have htop := Pm.D_top (x := xs) (y := ys) (Nat.le_refl _) (Nat.le_refl _)
    have hrow := hF.row
    rw [hn] at hrow
    obtain ⟨gr, cap, rfl, _, hgrl⟩ := hrow.form (Nat.succ_pos n)
    obtain ⟨k1, k2⟩ := frCells_at hfn
    have hc1 : wr.cell? ⟨gr, n * 2, none⟩ = some (.int .i64 f.low) := (hrow.cellAt (n * 2) (by omega)).trans (by rw [Nat.mul_comm]; exact k1)
    have hc2 : wr.cell? ⟨gr, n * 2 + 1, none⟩ = some (.slice f.A f.far.length f.cap) := (hrow.cellAt (n * 2 + 1) (by omega)).trans (by rw [Nat.mul_comm]; exact k2)
    have hg1 : wr.cell? ⟨w.heap.size, 0, none⟩ = some (.slice X xs.length cx) := hF.box.cell 0
    have hg2 : wr.cell? ⟨w.heap.size, 1, none⟩ = some (.slice Y ys.length cy) := hF.box.cell 1
    have hgl : w.heap.size < wr.heap.size := hF.box.lt
    have hn257 : ((n : Int) + 1) < 257 := by omega
    have HF := Lib.hid hF
    have HN := Lib.hid hn
    have HFN := Lib.hid hfn
    clear hF hn hfn k1 k2 hrow
    go_wp2_with fail
    have hfl : ∀ z ∈ f.far, -1 ≤ z ∧ z ≤ 1073741 := by
      intro z hz
      obtain ⟨t, ht⟩ := List.mem_iff_getElem?.1 hz
      obtain ⟨p, q, e1, _, e3, _⟩ := hfok.at_ t z ht
      omega
    have hfl1 := hfok.ne
    have hfl2 := hfok.low1
    have hfl3 := hfok.low2
    have hfl4 := hfok.high1
    have hfl5 := hfok.high2
    obtain ⟨hne1, hne2⟩ := hfok.next_le
    have hI1 : Ints (wr.alloc (.cells #[.int .i64 f.low, .slice f.A f.far.length f.cap] 56)) (wr.alloc (.cells #[.int .i64 f.low, .slice f.A f.far.length f.cap] 56)).heap.size f.A f.far := Fr.own.ints (World.ownsRow.alloc (HF.out.own f (List.mem_of_getElem? HFN.out)) _)
    have HFL := Lib.hid hfl
    clear hfl
    refine (next_any _ _ _ _ _ _ _ _ _ _ _ hI1 (by omega) (by omega) (by omega) HFL.out xs ys rfl rfl).mono ?_
    rintro e w2 ⟨rfl, hb2⟩
    obtain ⟨nl, hnl⟩ : ∃ nl, Pm.nextLow ys f.low f.far = nl := ⟨_, rfl⟩
    obtain ⟨nh, hnh⟩ : ∃ nh, Pm.nextHigh xs f.low f.far = nh := ⟨_, rfl⟩
    rw [hnl, hnh]
    rw [hnl, hnh] at hne1 hne2
    have hnl1 : f.low - 1 ≤ nl ∧ nl ≤ f.low + 1 := by rw [← hnl]; unfold Pm.nextLow; split <;> omega
    have hnh1 : nh ≤ f.low + 2 * ((f.far.length : Int) - 1) + 1 := by rw [← hnh]; unfold Pm.nextHigh; split <;> omega
    obtain ⟨m, hm⟩ : ∃ m : Nat, (nh - nl) / 2 + 1 = (m : Int) := ⟨((nh - nl) / 2 + 1).toNat, by omega⟩
    have HNL := Lib.hid hnl
    have HNH := Lib.hid hnh
    have HM : Hid (nl + 2 * ((m : Int) - 1) = nh) := Lib.hid (by omega)
    have hm1 : 1 ≤ m := by omega
    have hm2 : m ≤ 1073741 := by omega
    clear hnl hnh hI1
    obtain ⟨i0, hi, hz0, hz1, hz2⟩ := info_parts info3
    obtain ⟨w3, hmk, hown0, hg0⟩ := run_make_own (P := Try.prog) (w := w2) wr.heap.size 23 3 i0 _ 1 Try.underlying23 hi hz0 hz1 .i64 .i64 m (by rw [hz2]; omega) (by unfold maxLen; omega) (by have := hb2.size; simp at this; omega)
    have hB2 : Below wr.heap.size wr w2 := ((Below.refl _ _).alloc (Nat.le_refl _) _).trans (hb2.mono (by simp))
    have hlast2 : Blk w2 wr.heap.size 56 #[.int .i64 f.low, .slice f.A f.far.length f.cap] := (Blk.new wr 56 _).below hb2 (by simp)
    have hs23 := hg0.size
    have HX0 : Hid (Inner wr xs ys n nl #[.int .i64 f.low, .slice f.A f.far.length f.cap] w3.heap.size [] (.slice (some ⟨w2.heap.size, 0, none⟩) 0 m) (w3.alloc (.cells #[.int .i64 nl, .slice (some ⟨w2.heap.size, 0, none⟩) 0 m] 56))) := Lib.hid
      ⟨hown0.alloc _, Blk.new w3 56 _, (hlast2.grown hg0 (by simp)).alloc _, by simp, by simp, by have := hlast2.lt; omega, (hB2.grown hg0 hB2.size (by simp)).alloc (by have := hB2.size; omega) _⟩
    have hpar : (nl + (n + 1 : Nat)) % 2 = 0 := by
      have h1 := hfok.par
      rw [← HNL.out]
      unfold Pm.nextLow
      split <;> omega
    have HP := Lib.hid hpar
    obtain ⟨g1, rfl⟩ : ∃ g1, gk = g1 + 1 := ⟨gk - 1, by have := HN.out; omega⟩
    clear hg0 hown0 hlast2 hpar hne2
    go_wp2_with fail
    clear hmk hm
    have hX0 := HX0.out
    obtain ⟨W0, hW0⟩ : ∃ W0, W0 = wr := ⟨_, rfl⟩
    subst hW0
    go_loopg [7, 13] m (fun g2 s7 s13 wx => ∃ far' v, far'.length + g2 = m ∧ s7 = .bool false ∧ s13 = .int .i64 (nl + 2 * (far'.length : Int)) ∧ Inner W0 xs ys n nl #[.int .i64 f.low, .slice f.A f.far.length f.cap] w3.heap.size far' v wx)
    case atStart => exact ⟨[], _, by simp, rfl, by simp, hX0⟩
    case round =>
      clear hX0
      obtain ⟨far', v, hfg, rfl, rfl, hIn⟩ := hrel
      obtain ⟨wx, hwx⟩ : ∃ wx, wx = wr := ⟨_, rfl⟩
      subst hwx
      have hFx := HF.out.step hIn.below
      have hgx1 : wx.cell? ⟨w.heap.size, 0, none⟩ = some (.slice X xs.length cx) := hFx.box.cell 0
      have hgx2 : wx.cell? ⟨w.heap.size, 1, none⟩ = some (.slice Y ys.length cy) := hFx.box.cell 1
      have HFX := Lib.hid hFx
      have HIN := Lib.hid hIn
      cases gk with
      | zero =>
        have ht : ¬ (nl + 2 * (far'.length : Int) ≤ nh) := by have := HM.out; omega
        obtain ⟨Av, cv, rfl, _, _⟩ := row_shape hIn.row
        have hm0 : wx.cell? ⟨w3.heap.size, 0, none⟩ = some (.int .i64 nl) := hIn.made.cell 0
        have hm1' : wx.cell? ⟨w3.heap.size, 1, none⟩ = some (.slice Av far'.length cv) := hIn.made.cell 1
        have hok' : Pm.FrontOk xs ys L.length nl far' := by
          rw [HN.out, ← HNL.out]
          exact hfok.next (by rw [HNL.out, HNH.out, ← HM.out]; omega) (by rw [HNL.out]; exact hIn.at_) (by rw [HNL.out]; exact hIn.going)
        obtain ⟨v', W', hrun, hF2⟩ := hFx.more ⟨nl, Av, cv, far'⟩ (own_mono hIn.row (Nat.zero_le _)) hok' (by omega)
        have HR : Hid ((Builtin.append_ #[52, 52] 52 #[.slice (some ⟨gr, 0, none⟩) (n + 1) cap, .slice (some ⟨wx.heap.size, 0, none⟩) 1 1]).run Try.prog (wx.alloc (.cells #[.int .i64 nl, .slice Av far'.length cv] 56)) = .ok v' W') := Lib.hid hrun
        have HF2 := Lib.hid hF2
        clear hrun hF2 hok' hFx hIn
        go_wp2_with (at_builtin; refine wpList_append_run rfl rfl (by simp [Region.wanted]) rfl rfl HR.out ?_)
        go_roundg g1
        case measure => omega
        case rel => exact ⟨L ++ [⟨nl, Av, cv, far'⟩], by rw [List.length_append]; simp; omega, by simp, rfl, HF2.out⟩
      | succ g2 =>
        have ht : nl + 2 * (far'.length : Int) ≤ nh := by have := HM.out; omega
        obtain ⟨i, j, hfrom, hij, hi, hj, hslid⟩ := hfok.step (k := nl + 2 * (far'.length : Int)) (by rw [HNL.out]; omega) (by rw [HNH.out]; exact ht) (by have := HP.out; omega)
        have HSL := Lib.hid hslid
        have hl0 : wx.cell? ⟨W0.heap.size, 0, none⟩ = some (.int .i64 f.low) := hIn.last.cell 0
        have hl1 : wx.cell? ⟨W0.heap.size, 1, none⟩ = some (.slice f.A f.far.length f.cap) := hIn.last.cell 1
        have hcr := reach_any f.low (nl + 2 * (far'.length : Int)) f.A X Y f.far xs ys f.cap cx cy w.heap.size W0.heap.size i j wx (Fr.own.ints (hFx.own f (List.mem_of_getElem? HFN.out))) ((hx.below hFx.below).more hFx.below.size) ((hy.below hFx.below).more hFx.below.size) hgx1 hgx2 hl0 hl1 (by omega) (by omega) (by omega) HFL.out (by omega) (by omega) (by omega) (by omega) hfrom hij hi hj
        have HCR := Lib.hid hcr
        clear hslid hcr hfrom hij hFx hIn
        go_wp2_with fail
        refine HCR.out.mono ?_
        rintro e w4 ⟨i', j', rfl, hs, hb4⟩
        have hfar := HSL.out i' j' hs
        obtain ⟨hs1, hs2, hs3, hs4, _⟩ := hs
        have HFAR := Lib.hid hfar
        have HIN4 := Lib.hid (HIN.out.step hb4)
        have HFX4 := Lib.hid (HFX.out.step hb4)
        have hg41 : w4.cell? ⟨w.heap.size, 0, none⟩ = some (.slice X xs.length cx) := HFX4.out.box.cell 0
        have hg42 : w4.cell? ⟨w.heap.size, 1, none⟩ = some (.slice Y ys.length cy) := HFX4.out.box.cell 1
        clear hfar hs2
        go_wp2_with fail
        refine (isEnd_any (nl + 2 * (far'.length : Int)) i' _ _ _ _ _ _ _ (by omega) (by omega) (by omega) (by omega)).mono ?_
        rintro e w5 ⟨rfl, hb5⟩
        have HIN5 := Lib.hid (HIN4.out.step hb5)
        have HFX5 := Lib.hid (HFX4.out.step hb5)
        by_cases he : (i' : Int) = xs.length ∧ (i' : Int) - (nl + 2 * (far'.length : Int)) = ys.length
        · rw [decide_eq_true he]
          have hD : L.length = Pm.D xs ys xs.length ys.length := by
            obtain ⟨p, q, e1, e2, e3, e4, e5, _⟩ := HFAR.out
            have hp : p = xs.length := by omega
            have hq : q = ys.length := by omega
            subst hp hq
            have := HN.out
            omega
          have HD := Lib.hid hD
          clear hD he
          go_wp2_with fail
          rw [Exit.noGoto_ret]
          go_ret2
          exact ⟨_, L, rfl, HD.out, HFX5.out⟩
        · rw [decide_eq_false he]
          obtain ⟨A', c', w6, hrun, hc6, hz6, hI6⟩ := HIN5.out.more i' (by omega) HFAR.out he
          have HR : Hid ((Builtin.append_ #[23, 23] 23 #[v, .slice (some ⟨w5.heap.size, 0, none⟩) 1 1]).run Try.prog (w5.alloc (.cells #[.int .i64 (i' : Int)] 3)) = .ok (.slice A' (far'.length + 1) c') w6) := Lib.hid hrun
          have HI6 := Lib.hid hI6
          have hm5 : w5.cell? ⟨w3.heap.size, 1, none⟩ = some v := HIN5.out.made.cell 1
          clear hrun hI6 he
          go_wp2_with (at_builtin; refine wpList_append_run rfl rfl (by simp [Region.wanted]) rfl rfl HR.out ?_)
          go_roundg g2
          case measure => omega
          case rel => exact ⟨far' ++ [(i' : Int)], _, by simp; omega, rfl, by simp; omega, by simpa using HI6.out⟩

end Go.Proofs.Ytmonemgjgcfhlaa
