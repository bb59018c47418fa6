/-
  collatorref08.Candidates: the document's own candidates, each file of the one side with each of the other. Nothing that was there is changed.
-/
import Derived.Test.YtdnckhagknlfhaaTnP
import Derived.Test.YtdnckhagknlfhaaTnFiles
import Derived.Test.YtdnckhagknlfhaaTnSplit
import Derived.Test.YtdnckhagknlfhaaTnScore
import Derived.Deep.Onto
namespace Go.Proofs.Ytdnckhagknlfhaa
open Go.RowKit

def candOf (x y : It) : Pr := ⟨x.path, y.path, (Al.score (linesOf x.data) (linesOf y.data) : Nat)⟩
def okP (t : Int) (p : Pr) : Bool := decide (1 ≤ p.sc) && decide (t ≤ p.sc)
def candRow (x : It) (Y : List It) (t : Int) : List Pr := (Y.map (candOf x)).filter (okP t)
def candAll (X Y : List It) (t : Int) : List Pr := X.flatMap fun x => candRow x Y t
theorem candRow_take {x : It} {Y : List It} {t : Int} {l : Nat} {y : It} (h : Y[l]? = some y) : candRow x (Y.take (l + 1)) t = candRow x (Y.take l) t ++ if okP t (candOf x y) = true then [candOf x y] else [] := by
  obtain ⟨hl, rfl⟩ := List.getElem?_eq_some_iff.1 h
  unfold candRow
  rw [List.take_succ_eq_append_getElem hl, List.map_append, List.filter_append]
  congr 1
  by_cases e : okP t (candOf x Y[l]) = true
  · rw [if_pos e]; simp [e]
  · rw [if_neg e]; simp [e]
theorem candAll_take {X Y : List It} {t : Int} {k : Nat} {x : It} (h : X[k]? = some x) : candAll (X.take (k + 1)) Y t = candAll (X.take k) Y t ++ candRow x Y t := by
  obtain ⟨hk, rfl⟩ := List.getElem?_eq_some_iff.1 h
  unfold candAll
  rw [List.take_succ_eq_append_getElem hk, List.flatMap_append]
  simp
theorem candRow_len (x : It) (Y : List It) (t : Int) : (candRow x Y t).length ≤ Y.length := by
  unfold candRow
  exact Nat.le_trans (List.length_filter_le _ _) (by rw [List.length_map]; exact Nat.le_refl _)
theorem candAll_len (Y : List It) (t : Int) : ∀ X : List It, (candAll X Y t).length ≤ X.length * Y.length
  | [] => by simp [candAll]
  | x :: X => by
    have h1 := candAll_len Y t X
    have h2 := candRow_len x Y t
    have e : candAll (x :: X) Y t = candRow x Y t ++ candAll X Y t := rfl
    rw [e, List.length_append, List.length_cons, Nat.succ_mul]
    omega
theorem prs_base {w0 w1 w : World} {v : Value} {L : List Pr} (h : Prs w1 w v L) (hb : Below w0.heap.size w0 w1) : Prs w0 w v L :=
  ⟨h.1.mono hb.size, hb.trans (h.2.mono hb.size)⟩
theorem lines_few (d : ByteArray) : (linesOf d).length ≤ d.size := by
  unfold linesOf
  rw [List.length_map]
  have := Sp.Pl.split_length d.data.toList
  rw [Array.length_toList] at this
  exact this
theorem rscore_at (A B : Option Addr) (d1 d2 : ByteArray) (c d sc : Nat) (w : World) (ha : Strs w w.heap.size A (linesOf d1)) (hb : Strs w w.heap.size B (linesOf d2)) (hc : (linesOf d1).length ≤ c) (h1 : d1.size ≤ 1048576) (h2 : d2.size ≤ 1048576)
    (hs : Al.score (linesOf d1) (linesOf d2) = sc) : Calls Try.prog 48 #[.slice A (linesOf d1).length c, .slice B (linesOf d2).length d] w fun e w' => e = .returned (.int .i64 (sc : Int)) ∧ Below w.heap.size w w' := by
  have e1 := lines_few d1
  have e2 := lines_few d2
  refine (refScore_any A B _ _ c d _ w ha hb hc (by omega) (by omega)).mono ?_
  rintro e w' ⟨rfl, n, rfl⟩
  exact ⟨by rw [hs], below_drewN (Below.refl _ _) n⟩

set_option maxHeartbeats 8000000 in
set_option maxRecDepth 100000 in
theorem rcandsXY_any (A B : Option Addr) (its1 its2 X Y : List It) (n1 n2 c d : Nat) (t : Int) (w : World) (ha : ItemsAt w A its1) (hb : ItemsAt w B its2) (hn1 : its1.length = n1) (hn2 : its2.length = n2) (h1 : FitI its1) (h2 : FitI its2) (hX : X = filesI its1) (hY : Y = filesI its2) :
    Calls Try.prog 28 #[.slice A n1 c, .slice B n2 d, .int .i64 t] w fun e w' => ∃ v, e = .returned v ∧ Prs w w' v (candAll X Y t) := by
  subst hn1 hn2
  have HA := Lib.hid ha
  have HB := Lib.hid hb
  have k1 := h1.1
  have k2 := h2.1
  have lX : X.length ≤ 250 := by rw [hX]; exact Nat.le_trans (filesI_len _) k1
  have lY : Y.length ≤ 250 := by rw [hY]; exact Nat.le_trans (filesI_len _) k2
  have HPR := Lib.hid (Nat.mul_le_mul lX lY)
  have HDX : Hid (∀ x ∈ X, x.data.size ≤ 1048576) := Lib.hid fun x hx => (h1.2 x (filesI_sub x (by rw [← hX]; exact hx))).2
  have HDY : Hid (∀ x ∈ Y, x.data.size ≤ 1048576) := Lib.hid fun x hx => (h2.2 x (filesI_sub x (by rw [← hY]; exact hx))).2
  have HXE := Lib.hid hX
  have HYE := Lib.hid hY
  clear ha hb h1 h2 hX hY
  go_enter Try.func28, Try.ntmps28
  go_wp2_with fail
  refine (rfiles_any A its1 its1.length c _ HA.out rfl (by omega)).mono ?_
  rintro e w1 ⟨A3, c3, rfl, hX1, hB1⟩
  rw [← HXE.out] at hX1 ⊢
  have HX1 := Lib.hid hX1
  have HB1 := Lib.hid hB1
  clear hX1 hB1
  go_wp2_with fail
  refine (rfiles_any B its2 its2.length d _ (HB.out.up HB1.out) rfl (by omega)).mono ?_
  rintro e w2 ⟨A4, c4, rfl, hY2, hB2⟩
  rw [← HYE.out] at hY2 ⊢
  have HX := Lib.hid (HX1.out.up hB2)
  have HY := Lib.hid hY2
  have HB2 := Lib.hid (HB1.out.trans (hB2.mono HB1.out.size))
  clear hY2 hB2 HX1 HA HB HB1
  clear HXE HYE
  go_wp2_with fail
  go_loopw [9, 10] (fun v i wr => ∃ k : Nat, k ≤ X.length ∧ i = .int .i64 k ∧ Prs w2 wr v (candAll (X.take k) Y t)) (fun _ i _ => X.length - (intOf i).toNat)
  case atStart => exact ⟨0, Nat.zero_le _, rfl, Prs.nil w2⟩
  case round =>
    obtain ⟨k, hk, rfl, hT⟩ := hrel
    have HT := Lib.hid hT
    clear hT
    by_cases g1 : k < X.length
    case neg =>
      have HE : Hid (Prs w2 wr u9 (candAll X Y t)) := Lib.hid (by have := HT.out; rwa [List.take_of_length_le (by omega)] at this)
      clear HT
      go_wp2_with fail
      go_ret
      exact ⟨_, rfl, prs_base HE.out HB2.out⟩
    obtain ⟨⟨p1, z1, d1, bd1⟩, hit⟩ : ∃ it, X[k]? = some it := ⟨_, List.getElem?_eq_getElem g1⟩
    have HST := Lib.hid (candAll_take (Y := Y) (t := t) hit)
    obtain ⟨a, rfl, hal, x0, _, x2, _⟩ := HX.out.at_ hit
    have HXC : Hid (∀ W, Below w2.heap.size w2 W → W.cell? (a.add (k * 4)) = some (.string p1) ∧ W.cell? ⟨(a.add (k * 4)).block, (a.add (k * 4)).off + 2, none⟩ = some (.string d1)) := Lib.hid fun W hB => by
      have hlt : (a.add (k * 4)).block < w2.heap.size := by rw [add_block]; exact hal
      exact ⟨(hB.cell hlt).trans x0, (hB.cell (p := ⟨_, _, none⟩) hlt).trans x2⟩
    have HZ1 : Hid (d1.size ≤ 1048576) := Lib.hid (HDX.out _ (List.mem_of_getElem? hit))
    clear hit x0 x2 hal
    go_wp2_with fail
    go_loopw [9, 11] (fun v i wr => ∃ l : Nat, l ≤ Y.length ∧ i = .int .i64 l ∧ Prs w2 wr v (candAll (X.take k) Y t ++ candRow ⟨p1, z1, d1, bd1⟩ (Y.take l) t)) (fun _ i _ => Y.length - (intOf i).toNat)
    case atStart => exact ⟨0, Nat.zero_le _, rfl, by have := HT.out; simpa [candRow] using this⟩
    case round =>
      obtain ⟨l, hl, rfl, hC⟩ := hrel
      have HC := Lib.hid hC
      clear hC HT
      by_cases g2 : l < Y.length
      case neg =>
        have HE : Hid (Prs w2 wr u9 (candAll (X.take (k + 1)) Y t)) := Lib.hid (by have := HC.out; rwa [show Y.take l = Y from List.take_of_length_le (by omega), ← HST.out] at this)
        clear HC
        go_wp2_with fail
        go_roundw
        case rel => exact ⟨k + 1, by omega, by go_num, HE.out⟩
        case measure => simp [intOf]; omega
      obtain ⟨⟨p2, z2, d2, bd2⟩, hit⟩ : ∃ it, Y[l]? = some it := ⟨_, List.getElem?_eq_getElem g2⟩
      have HSR := Lib.hid (candRow_take (x := ⟨p1, z1, d1, bd1⟩) (t := t) hit)
      obtain ⟨b, rfl, hbl, x0, _, x2, _⟩ := HY.out.at_ hit
      have HYC : Hid (∀ W, Below w2.heap.size w2 W → W.cell? (b.add (l * 4)) = some (.string p2) ∧ W.cell? ⟨(b.add (l * 4)).block, (b.add (l * 4)).off + 2, none⟩ = some (.string d2)) := Lib.hid fun W hB => by
        have hlt : (b.add (l * 4)).block < w2.heap.size := by rw [add_block]; exact hbl
        exact ⟨(hB.cell hlt).trans x0, (hB.cell (p := ⟨_, _, none⟩) hlt).trans x2⟩
      have HZ2 : Hid (d2.size ≤ 1048576) := Lib.hid (HDY.out _ (List.mem_of_getElem? hit))
      clear hit x0 x2 hbl
      obtain ⟨Lc, hLc⟩ : ∃ Lc, Lc = candAll (X.take k) Y t ++ candRow ⟨p1, z1, d1, bd1⟩ (Y.take l) t := ⟨_, rfl⟩
      obtain ⟨sc, hsc⟩ : ∃ sc, Al.score (linesOf d1) (linesOf d2) = sc := ⟨_, rfl⟩
      have HCO : Hid (candOf ⟨p1, z1, d1, bd1⟩ ⟨p2, z2, d2, bd2⟩ = ⟨p1, p2, (sc : Int)⟩) := Lib.hid (by unfold candOf; rw [hsc])
      have HSC := Lib.hid hsc
      have HLC := Lib.hid hLc
      have HLEN : Hid ((Lc ++ [(⟨p1, p2, (sc : Int)⟩ : Pr)]).length ≤ 65536) := Lib.hid (by
        have e1 := candAll_len Y t (X.take k)
        have e2 := candRow_len ⟨p1, z1, d1, bd1⟩ (Y.take l) t
        have e3 : (k + 1) * Y.length ≤ X.length * Y.length := Nat.mul_le_mul_right _ (by omega)
        have e4 : (X.take k).length = k := by rw [List.length_take]; omega
        have e5 : (Y.take l).length ≤ Y.length := by rw [List.length_take]; omega
        have e6 := HPR.out
        rw [Nat.add_mul, Nat.one_mul] at e3
        rw [e4] at e1
        rw [hLc, List.length_append, List.length_append, List.length_singleton]
        omega)
      have hC2 := HC.out
      rw [← hLc] at hC2
      obtain ⟨Av, cv, rfl⟩ := own_slice hC2.1
      have HP0 := Lib.hid hC2
      have HBW := Lib.hid hC2.2
      clear hLc hsc hC2 HC
      go_wp2_with fail
      go_cut [12] (fun s wx => s = .int .i64 (sc : Int) ∧ Below wr.heap.size wr wx)
      case first =>
            refine wp_region_noPanic ?_
            refine wp_region_held_drew (S := fun W => Below wr.heap.size wr W) (by kernel_rfl) ((Below.refl wr.heap.size wr).drew) (fun hS0 => ?_)
            change wpAnyH _ _ _ _ _ 14 #[false, false, false, false, false, false, false, false, false, false, false, false, false, false] _ (World.drew _)
            refine wpAnyH_take (i := 0) (v := .slice (some a) X.length c3) rfl (by kernel_rfl) (by kernel_rfl) (by kernel_rfl) (fun _ _ _ h => h) (Or.inl ⟨by rfl, fun w' hS' => by exact op_move rfl rfl⟩) hS0 ?_
            change wpAnyH _ _ _ _ _ _ _ (Act.put _ (some 29) (.slice (some a) X.length c3)) _
            simp only [Act.put, List.setIfInBounds_toArray, List.set_cons_zero, List.set_cons_succ]
            refine wpAnyH_take (i := 1) (v := .int .i64 (k : Int)) rfl (by kernel_rfl) (by kernel_rfl) (by kernel_rfl) (fun _ _ _ h => h) (Or.inl ⟨by rfl, fun w' hS' => by exact op_move rfl rfl⟩) hS0 ?_
            change wpAnyH _ _ _ _ _ _ _ (Act.put _ (some 30) (.int .i64 (k : Int))) _
            simp only [Act.put, List.setIfInBounds_toArray, List.set_cons_zero, List.set_cons_succ]
            refine wpAnyH_take (i := 2) (v := .pointer (some (a.add (k * 4)))) rfl (by kernel_rfl) (by kernel_rfl) (by kernel_rfl) (fun _ _ _ h => h) (Or.inl ⟨by rfl, fun w' hS' => by go_simp⟩) hS0 ?_
            change wpAnyH _ _ _ _ _ _ _ (Act.put _ (some 31) (.pointer (some (a.add (k * 4))))) _
            simp only [Act.put, List.setIfInBounds_toArray, List.set_cons_zero, List.set_cons_succ]
            refine wpAnyH_take (i := 3) (v := .pointer (some ⟨(a.add (k * 4)).block, (a.add (k * 4)).off + 2, none⟩)) rfl (by kernel_rfl) (by kernel_rfl) (by kernel_rfl) (fun _ _ _ h => h) (Or.inl ⟨by rfl, fun w' hS' => by go_simp⟩) hS0 ?_
            change wpAnyH _ _ _ _ _ _ _ (Act.put _ (some 32) (.pointer (some ⟨(a.add (k * 4)).block, (a.add (k * 4)).off + 2, none⟩))) _
            simp only [Act.put, List.setIfInBounds_toArray, List.set_cons_zero, List.set_cons_succ]
            refine wpAnyH_take (i := 4) (v := .string d1) rfl (by kernel_rfl) (by kernel_rfl) (by kernel_rfl) (fun _ _ _ h => h) (Or.inl ⟨by rfl, fun w' hS' => by obtain ⟨y0, y1⟩ := HXC.out _ (HBW.out.trans (hS'.mono HBW.out.size)); go_simp⟩) hS0 ?_
            change wpAnyH _ _ _ _ _ _ _ (Act.put _ (some 33) (.string d1)) _
            simp only [Act.put, List.setIfInBounds_toArray, List.set_cons_zero, List.set_cons_succ]
            refine wpAnyH_take (i := 6) (v := .slice (some b) Y.length c4) rfl (by kernel_rfl) (by kernel_rfl) (by kernel_rfl) (fun _ _ _ h => h) (Or.inl ⟨by rfl, fun w' hS' => by exact op_move rfl rfl⟩) hS0 ?_
            change wpAnyH _ _ _ _ _ _ _ (Act.put _ (some 35) (.slice (some b) Y.length c4)) _
            simp only [Act.put, List.setIfInBounds_toArray, List.set_cons_zero, List.set_cons_succ]
            refine wpAnyH_take (i := 7) (v := .int .i64 (l : Int)) rfl (by kernel_rfl) (by kernel_rfl) (by kernel_rfl) (fun _ _ _ h => h) (Or.inl ⟨by rfl, fun w' hS' => by exact op_move rfl rfl⟩) hS0 ?_
            change wpAnyH _ _ _ _ _ _ _ (Act.put _ (some 36) (.int .i64 (l : Int))) _
            simp only [Act.put, List.setIfInBounds_toArray, List.set_cons_zero, List.set_cons_succ]
            refine wpAnyH_take (i := 8) (v := .pointer (some (b.add (l * 4)))) rfl (by kernel_rfl) (by kernel_rfl) (by kernel_rfl) (fun _ _ _ h => h) (Or.inl ⟨by rfl, fun w' hS' => by go_simp⟩) hS0 ?_
            change wpAnyH _ _ _ _ _ _ _ (Act.put _ (some 37) (.pointer (some (b.add (l * 4))))) _
            simp only [Act.put, List.setIfInBounds_toArray, List.set_cons_zero, List.set_cons_succ]
            refine wpAnyH_take (i := 9) (v := .pointer (some ⟨(b.add (l * 4)).block, (b.add (l * 4)).off + 2, none⟩)) rfl (by kernel_rfl) (by kernel_rfl) (by kernel_rfl) (fun _ _ _ h => h) (Or.inl ⟨by rfl, fun w' hS' => by go_simp⟩) hS0 ?_
            change wpAnyH _ _ _ _ _ _ _ (Act.put _ (some 38) (.pointer (some ⟨(b.add (l * 4)).block, (b.add (l * 4)).off + 2, none⟩))) _
            simp only [Act.put, List.setIfInBounds_toArray, List.set_cons_zero, List.set_cons_succ]
            refine wpAnyH_take (i := 10) (v := .string d2) rfl (by kernel_rfl) (by kernel_rfl) (by kernel_rfl) (fun _ _ _ h => h) (Or.inl ⟨by rfl, fun w' hS' => by obtain ⟨y0, y1⟩ := HYC.out _ (HBW.out.trans (hS'.mono HBW.out.size)); go_simp⟩) hS0 ?_
            change wpAnyH _ _ _ _ _ _ _ (Act.put _ (some 39) (.string d2)) _
            simp only [Act.put, List.setIfInBounds_toArray, List.set_cons_zero, List.set_cons_succ]
            refine wpAnyH_ready (rs := [5]) (by kernel_rfl) (by simp) (AllReadyH.cons rfl (fun K hK => ?_) (AllReadyH.nil))
            · skip
              go_simp
              refine (refSplit_any d1 HZ1.out _).mono ?_
              rintro e ws1 ⟨As1, cs1, rfl, hst1, hcap1, hb2⟩
              refine hK.out _ _ (hS0.trans (hb2.mono hS0.size)) (fun hS3 => ?_)
              clear hK K
              simp only [List.setIfInBounds_toArray, List.set_cons_zero, List.set_cons_succ]
              refine wpAnyH_ready (rs := [11]) (by kernel_rfl) (by simp) (AllReadyH.cons rfl (fun K hK => ?_) (AllReadyH.nil))
              · skip
                go_simp
                refine (refSplit_any d2 HZ2.out _).mono ?_
                rintro e ws4 ⟨As2, cs2, rfl, hst2, hcap2, hb5⟩
                refine hK.out _ _ (hS3.trans (hb5.mono hS3.size)) (fun hS6 => ?_)
                have hst1c := hst1.up2 hb5
                clear hK K
                simp only [List.setIfInBounds_toArray, List.set_cons_zero, List.set_cons_succ]
                refine wpAnyH_ready (rs := [12]) (by kernel_rfl) (by simp) (AllReadyH.cons rfl (fun K hK => ?_) (AllReadyH.nil))
                · skip
                  go_simp
                  refine (rscore_at As1 As2 d1 d2 cs1 cs2 sc _ hst1c hst2 hcap1 HZ1.out HZ2.out HSC.out).mono ?_
                  rintro e ws7 ⟨rfl, hb⟩
                  refine hK.out _ _ (hS6.trans (hb.mono hS6.size)) (fun hS8 => ?_)
                  clear hK K
                  simp only [List.setIfInBounds_toArray, List.set_cons_zero, List.set_cons_succ]
                  refine wpAnyH_take (i := 13) (v := .int .i64 (sc : Int)) rfl (by kernel_rfl) (by kernel_rfl) (by kernel_rfl) (fun _ _ _ h => h) (Or.inl ⟨by rfl, fun w' hS' => by exact op_assign rfl rfl⟩) hS8 ?_
                  change wpAnyH _ _ _ _ _ _ _ (Act.put _ (some 12) (.int .i64 (sc : Int))) _
                  simp only [Act.put, List.setIfInBounds_toArray, List.set_cons_zero, List.set_cons_succ]
                  refine wpAnyH_done (by kernel_rfl) ?_ _
                  refine NoPanic.normal ?_
                  go_wp2_with fail
                  go_meet
                  exact ⟨rfl, hS8⟩
      case rest =>
      obtain ⟨rfl, hbw⟩ := hcut
      have HP2 := Lib.hid (HP0.out.up hbw)
      have HNEW : Hid (∀ b, b = okP t ⟨p1, p2, (sc : Int)⟩ → candAll (X.take k) Y t ++ candRow ⟨p1, z1, d1, bd1⟩ (Y.take (l + 1)) t = Lc ++ if b = true then [⟨p1, p2, (sc : Int)⟩] else []) := Lib.hid (fun b hb => by rw [HSR.out, ← List.append_assoc, ← HLC.out, HCO.out, hb])
      clear hbw HP0 HSR HLC HCO HBW HSC
      by_cases m1 : 1 ≤ (sc : Int)
      case neg =>
        have HE : Hid (Prs w2 wc (.slice Av Lc.length cv) (candAll (X.take k) Y t ++ candRow ⟨p1, z1, d1, bd1⟩ (Y.take (l + 1)) t)) := Lib.hid (by rw [HNEW.out false (by unfold okP; simp only [decide_eq_false m1, Bool.false_and])]; simpa using HP2.out)
        have dm : decide (1 ≤ (sc : Int)) = false := decide_eq_false m1
        clear m1
        go_wp2_with fail
        go_roundw
        case rel => exact ⟨l + 1, by omega, by go_num, HE.out⟩
        case measure => simp [intOf]; omega
      by_cases m2 : t ≤ (sc : Int)
      case neg =>
        have HE : Hid (Prs w2 wc (.slice Av Lc.length cv) (candAll (X.take k) Y t ++ candRow ⟨p1, z1, d1, bd1⟩ (Y.take (l + 1)) t)) := Lib.hid (by rw [HNEW.out false (by unfold okP; simp only [decide_eq_false m2, Bool.and_false])]; simpa using HP2.out)
        have dm : decide (1 ≤ (sc : Int)) = true := decide_eq_true m1
        have dn : decide (t ≤ (sc : Int)) = false := decide_eq_false m2
        clear m1 m2
        go_wp2_with fail
        go_roundw
        case rel => exact ⟨l + 1, by omega, by go_num, HE.out⟩
        case measure => simp [intOf]; omega
      have HE : Hid (candAll (X.take k) Y t ++ candRow ⟨p1, z1, d1, bd1⟩ (Y.take (l + 1)) t = Lc ++ [⟨p1, p2, (sc : Int)⟩]) := Lib.hid (by rw [HNEW.out true (by unfold okP; simp only [decide_eq_true m1, decide_eq_true m2, Bool.and_self])]; rfl)
      have dm : decide (1 ≤ (sc : Int)) = true := decide_eq_true m1
      have dn : decide (t ≤ (sc : Int)) = true := decide_eq_true m2
      clear m1 m2 HNEW
      go_wp2_with fail
      clear dm dn
      refine wp_region_noPanic ?_
      refine wp_region_held_drew (S := fun W => Below w2.heap.size w2 W) (by kernel_rfl) (HP2.out.2.drew) (fun hS0 => ?_)
      change wpAnyH _ _ _ _ _ 16 #[false, false, false, false, false, false, false, false, false, false, false, false, false, false, false, false] _ (World.drew _)
      refine wpAnyH_take (i := 0) (v := .slice Av Lc.length cv) rfl (by kernel_rfl) (by kernel_rfl) (by kernel_rfl) (fun _ _ _ h => h) (Or.inl ⟨by rfl, fun w' hS' => by exact op_move rfl rfl⟩) hS0 ?_
      change wpAnyH _ _ _ _ _ _ _ (Act.put _ (some 49) (.slice Av Lc.length cv)) _
      simp only [Act.put, List.setIfInBounds_toArray, List.set_cons_zero, List.set_cons_succ]
      refine wpAnyH_take (i := 1) (v := .slice (some a) X.length c3) rfl (by kernel_rfl) (by kernel_rfl) (by kernel_rfl) (fun _ _ _ h => h) (Or.inl ⟨by rfl, fun w' hS' => by exact op_move rfl rfl⟩) hS0 ?_
      change wpAnyH _ _ _ _ _ _ _ (Act.put _ (some 50) (.slice (some a) X.length c3)) _
      simp only [Act.put, List.setIfInBounds_toArray, List.set_cons_zero, List.set_cons_succ]
      refine wpAnyH_take (i := 2) (v := .int .i64 (k : Int)) rfl (by kernel_rfl) (by kernel_rfl) (by kernel_rfl) (fun _ _ _ h => h) (Or.inl ⟨by rfl, fun w' hS' => by exact op_move rfl rfl⟩) hS0 ?_
      change wpAnyH _ _ _ _ _ _ _ (Act.put _ (some 51) (.int .i64 (k : Int))) _
      simp only [Act.put, List.setIfInBounds_toArray, List.set_cons_zero, List.set_cons_succ]
      refine wpAnyH_take (i := 3) (v := .pointer (some (a.add (k * 4)))) rfl (by kernel_rfl) (by kernel_rfl) (by kernel_rfl) (fun _ _ _ h => h) (Or.inl ⟨by rfl, fun w' hS' => by go_simp⟩) hS0 ?_
      change wpAnyH _ _ _ _ _ _ _ (Act.put _ (some 52) (.pointer (some (a.add (k * 4))))) _
      simp only [Act.put, List.setIfInBounds_toArray, List.set_cons_zero, List.set_cons_succ]
      refine wpAnyH_take (i := 4) (v := .pointer (some (a.add (k * 4)))) rfl (by kernel_rfl) (by kernel_rfl) (by kernel_rfl) (fun _ _ _ h => h) (Or.inl ⟨by rfl, fun w' hS' => by go_simp⟩) hS0 ?_
      change wpAnyH _ _ _ _ _ _ _ (Act.put _ (some 53) (.pointer (some (a.add (k * 4))))) _
      simp only [Act.put, List.setIfInBounds_toArray, List.set_cons_zero, List.set_cons_succ]
      refine wpAnyH_take (i := 5) (v := .string p1) rfl (by kernel_rfl) (by kernel_rfl) (by kernel_rfl) (fun _ _ _ h => h) (Or.inl ⟨by rfl, fun w' hS' => by obtain ⟨y0, y1⟩ := HXC.out _ hS'; go_simp⟩) hS0 ?_
      change wpAnyH _ _ _ _ _ _ _ (Act.put _ (some 54) (.string p1)) _
      simp only [Act.put, List.setIfInBounds_toArray, List.set_cons_zero, List.set_cons_succ]
      refine wpAnyH_take (i := 6) (v := .slice (some b) Y.length c4) rfl (by kernel_rfl) (by kernel_rfl) (by kernel_rfl) (fun _ _ _ h => h) (Or.inl ⟨by rfl, fun w' hS' => by exact op_move rfl rfl⟩) hS0 ?_
      change wpAnyH _ _ _ _ _ _ _ (Act.put _ (some 55) (.slice (some b) Y.length c4)) _
      simp only [Act.put, List.setIfInBounds_toArray, List.set_cons_zero, List.set_cons_succ]
      refine wpAnyH_take (i := 7) (v := .int .i64 (l : Int)) rfl (by kernel_rfl) (by kernel_rfl) (by kernel_rfl) (fun _ _ _ h => h) (Or.inl ⟨by rfl, fun w' hS' => by exact op_move rfl rfl⟩) hS0 ?_
      change wpAnyH _ _ _ _ _ _ _ (Act.put _ (some 56) (.int .i64 (l : Int))) _
      simp only [Act.put, List.setIfInBounds_toArray, List.set_cons_zero, List.set_cons_succ]
      refine wpAnyH_take (i := 8) (v := .pointer (some (b.add (l * 4)))) rfl (by kernel_rfl) (by kernel_rfl) (by kernel_rfl) (fun _ _ _ h => h) (Or.inl ⟨by rfl, fun w' hS' => by go_simp⟩) hS0 ?_
      change wpAnyH _ _ _ _ _ _ _ (Act.put _ (some 57) (.pointer (some (b.add (l * 4))))) _
      simp only [Act.put, List.setIfInBounds_toArray, List.set_cons_zero, List.set_cons_succ]
      refine wpAnyH_take (i := 9) (v := .pointer (some (b.add (l * 4)))) rfl (by kernel_rfl) (by kernel_rfl) (by kernel_rfl) (fun _ _ _ h => h) (Or.inl ⟨by rfl, fun w' hS' => by go_simp⟩) hS0 ?_
      change wpAnyH _ _ _ _ _ _ _ (Act.put _ (some 58) (.pointer (some (b.add (l * 4))))) _
      simp only [Act.put, List.setIfInBounds_toArray, List.set_cons_zero, List.set_cons_succ]
      refine wpAnyH_take (i := 10) (v := .string p2) rfl (by kernel_rfl) (by kernel_rfl) (by kernel_rfl) (fun _ _ _ h => h) (Or.inl ⟨by rfl, fun w' hS' => by obtain ⟨y0, y1⟩ := HYC.out _ hS'; go_simp⟩) hS0 ?_
      change wpAnyH _ _ _ _ _ _ _ (Act.put _ (some 59) (.string p2)) _
      simp only [Act.put, List.setIfInBounds_toArray, List.set_cons_zero, List.set_cons_succ]
      refine wpAnyH_take (i := 11) (v := .int .i64 (sc : Int)) rfl (by kernel_rfl) (by kernel_rfl) (by kernel_rfl) (fun _ _ _ h => h) (Or.inl ⟨by rfl, fun w' hS' => by exact op_move rfl rfl⟩) hS0 ?_
      change wpAnyH _ _ _ _ _ _ _ (Act.put _ (some 60) (.int .i64 (sc : Int))) _
      simp only [Act.put, List.setIfInBounds_toArray, List.set_cons_zero, List.set_cons_succ]
      refine wpAnyH_take (i := 12) (v := .agg #[.string p1, .string p2, .int .i64 (sc : Int)]) rfl (by kernel_rfl) (by kernel_rfl) (by kernel_rfl) (fun _ _ _ h => h) (Or.inl ⟨by rfl, fun w' hS' => by go_simp⟩) hS0 ?_
      change wpAnyH _ _ _ _ _ _ _ (Act.put _ (some 61) (.agg #[.string p1, .string p2, .int .i64 (sc : Int)])) _
      simp only [Act.put, List.setIfInBounds_toArray, List.set_cons_zero, List.set_cons_succ]
      refine wpAnyH_ready (rs := [13]) (by kernel_rfl) (by simp) (AllReadyH.cons rfl (fun K hK => ?_) (AllReadyH.nil))
      · skip
        obtain ⟨gb, Wb, hrb, hbb, hBb, hgb⟩ := op_slice29 ⟨p1, p2, (sc : Int)⟩ wc.drew
        refine step_op_run (hrb _ _ _ rfl rfl) rfl ?_
        refine hK.out _ _ (hS0.trans (hBb.mono hS0.size)) (fun hS1 => ?_)
        clear hK K
        change wpAnyH _ _ _ _ _ _ _ (Act.put _ (some 62) (.slice (some ⟨gb, 0, none⟩) 1 1)) _
        simp only [Act.put, List.setIfInBounds_toArray, List.set_cons_zero, List.set_cons_succ]
        refine wpAnyH_ready (rs := [14]) (by kernel_rfl) (by simp) (AllReadyH.cons rfl (fun K hK => ?_) (AllReadyH.nil))
        · skip
          obtain ⟨A7, c7, W7, hr7, ho7, _⟩ := append_prs (HP2.out.up ((Below.refl wc.heap.size wc).drew.trans hBb)) 1 1 (one_pr hbb) rfl (Lc ++ [⟨p1, p2, (sc : Int)⟩]) rfl HLEN.out
          refine step_append_run2 hr7 rfl rfl rfl rfl rfl ?_
          refine hK.out _ _ ho7.2 (fun hS2 => ?_)
          clear hK K
          change wpAnyH _ _ _ _ _ _ _ (Act.put _ (some 63) (.slice A7 (Lc ++ [(⟨p1, p2, (sc : Int)⟩ : Pr)]).length c7)) _
          simp only [Act.put, List.setIfInBounds_toArray, List.set_cons_zero, List.set_cons_succ]
          refine wpAnyH_take (i := 15) (v := .slice A7 (Lc ++ [(⟨p1, p2, (sc : Int)⟩ : Pr)]).length c7) rfl (by kernel_rfl) (by kernel_rfl) (by kernel_rfl) (fun _ _ _ h => h) (Or.inl ⟨by rfl, fun w' hS' => by exact op_assign rfl rfl⟩) hS2 ?_
          change wpAnyH _ _ _ _ _ _ _ (Act.put _ (some 9) (.slice A7 (Lc ++ [(⟨p1, p2, (sc : Int)⟩ : Pr)]).length c7)) _
          simp only [Act.put, List.setIfInBounds_toArray, List.set_cons_zero, List.set_cons_succ]
          refine wpAnyH_done (by kernel_rfl) ?_ _
          refine NoPanic.normal ?_
          go_simp
          go_wp2_with fail
          go_roundw
          case rel => exact ⟨l + 1, by omega, by go_num, by rw [HE.out]; have h := ho7; simp only [List.length_append, List.length_singleton] at h; exact h⟩
          case measure => simp [intOf]; omega

end Go.Proofs.Ytdnckhagknlfhaa
