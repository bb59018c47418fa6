/-
  collatorref08.Pairs: the document's own pairs are those that there are. Nothing that was there is changed.
-/
import Derived.Test.YtdnckhagknlfhaaTnGr
namespace Go.Proofs.Ytdnckhagknlfhaa
open Go.RowKit

theorem better_v (f1 t1 f2 t2 : ByteArray) (s1 s2 : Int) (w : World) (h1 : f1.size ≤ 1048576) (h2 : f2.size ≤ 1048576) (h3 : t1.size ≤ 1048576) (h4 : t2.size ≤ 1048576) (v : Bool) (hv : decide (btr ⟨f1, t1, s1⟩ ⟨f2, t2, s2⟩) = v) :
    Calls Try.prog 20 #[.agg #[.string f1, .string t1, .int .i64 s1], .agg #[.string f2, .string t2, .int .i64 s2]] w fun e w' => e = .returned (.bool v) ∧ Below w.heap.size w w' := by
  subst hv
  exact better20_any ⟨f1, t1, s1⟩ ⟨f2, t2, s2⟩ w h1 h2 h3 h4
def lenV : Value → Nat
  | .slice _ n _ => n
  | _ => 0

set_option maxHeartbeats 8000000 in
set_option maxRecDepth 100000 in
theorem rpairsC_any (C : Pr → Prop) (A B : Option Addr) (its1 its2 : List It) (n1 n2 c d : Nat) (t : Int) (w : World) (ha : ItemsAt w A its1) (hb : ItemsAt w B its2) (hn1 : its1.length = n1) (hn2 : its2.length = n2) (h1 : FitI its1) (h2 : FitI its2)
    (l : List Pr) (hl : l = candAll (filesI its1) (filesI its2) t) (hC : ∀ c, c ∈ l ↔ C c) :
    Calls Try.prog 14 #[.slice A n1 c, .slice B n2 d, .int .i64 t] w fun e w' => ∃ v L, e = .returned v ∧ Prs w w' v L ∧ IsP C L := by
  subst hn1 hn2
  have HF1 := Lib.hid h1
  have HF2 := Lib.hid h2
  have HA := Lib.hid ha
  have HB := Lib.hid hb
  have HC := Lib.hid hC
  have hlf : l.length ≤ 62500 := by rw [hl]; exact cand_few h1 h2
  have HSZ : Hid (∀ p ∈ l, p.fr.size ≤ 1048576 ∧ p.tt.size ≤ 1048576) := Lib.hid (by rw [hl]; exact cand_size h1 h2)
  have HLE := Lib.hid hl
  clear ha hb h1 h2 hC hl
  go_enter Try.func14, Try.ntmps14
  go_wp2_with fail
  refine (rcandsXY_any A B its1 its2 (filesI its1) (filesI its2) its1.length its2.length c d t _ HA.out HB.out rfl rfl HF1.out HF2.out rfl rfl).mono ?_
  rintro e w1 ⟨v, rfl, hP⟩
  rw [← HLE.out] at hP
  obtain ⟨lA, lc, rfl⟩ := own_slice hP.1
  have HLT := Lib.hid (PrsAt.of_own hP.1 rfl)
  have HB1 := Lib.hid hP.2
  clear hP HLE HA HB HF1 HF2
  go_wp2_with fail
  go_loopw [8] (fun v wr => ∃ T : List Pr, Prs w1 wr v T ∧ Hid (GrT l T)) (fun v _ => l.length - lenV v)
  case atStart => exact ⟨[], Prs.nil w1, Lib.hid (GrT.nil l)⟩
  case round =>
    obtain ⟨T, hT, HG⟩ := hrel
    obtain ⟨Av, cv, rfl⟩ := own_slice hT.1
    have HT := Lib.hid hT
    have htl : T.length ≤ 62500 := by have := HG.out.few; omega
    clear hT
    go_wp2_with fail
    go_loopw [9, 10] (fun b i wy => ∃ (k : Nat) (z : Int), k ≤ l.length ∧ i = .int .i64 k ∧ b = .int .i64 z ∧ Prs w1 wy (.slice Av T.length cv) T ∧ BestIs l T k z) (fun _ i _ => l.length - (intOf i).toNat)
    case atStart => exact ⟨0, -1, Nat.zero_le _, rfl, rfl, HT.out, BestIs.zero l T⟩
    case round =>
      clear HT
      obtain ⟨k, z, hk, rfl, rfl, hT, hZ⟩ := hrel
      have HT := Lib.hid hT
      have HZ := Lib.hid hZ
      clear hT hZ
      by_cases g1 : k < l.length
      case neg =>
        have hke : k = l.length := by omega
        have HZ2 : Hid (BestIs l T l.length z) := Lib.hid (by rw [← hke]; exact HZ.out)
        clear hke HZ
        rcases (show z = -1 ∨ ∃ (j : Nat) (m : Pr), z = (j : Int) ∧ l[j]? = some m by
          rcases HZ2.out with ⟨h, _⟩ | ⟨j, m, h, _, h3, _⟩
          · exact .inl h
          · exact .inr ⟨j, m, h, h3⟩) with hz | ⟨j, ⟨mf, mt, ms⟩, hz, hm⟩
        · subst hz
          go_wp2_with fail
          refine (sorted_any Av T T.length cv _ (PrsAt.of_own HT.out.1 rfl) rfl (by omega) (fun p hp => (HSZ.out p (HG.out.sub p hp)).2)).mono ?_
          rintro e w5 ⟨v, O, rfl, hO, hp, hs⟩
          have HO := Lib.hid hO
          have HI := Lib.hid (HG.out.end_ HC.out HZ2.out hp hs)
          clear hO hp hs
          go_wp2_with fail
          go_ret
          exact ⟨_, O, rfl, prs_base HO.out (HB1.out.trans (HT.out.2.mono HB1.out.size)), HI.out⟩
        · subst hz
          have hjl : j < l.length := (List.getElem?_eq_some_iff.1 hm).1
          obtain ⟨la, rfl, hlab, hlc⟩ := (HLT.out.up HT.out.2) (by intro e; subst e; simp at hm)
          obtain ⟨x0, x1, x2⟩ := hlc j _ hm
          obtain ⟨hg, hfew⟩ := HG.out.step hm HZ2.out
          have HGN := Lib.hid hg
          obtain ⟨N, hN⟩ : ∃ N, T.length + 1 = N := ⟨_, rfl⟩
          obtain ⟨A7, c7, W7, hrun7, hP7, _⟩ := HT.out.push ⟨mf, mt, ms⟩ N hN (by omega)
          have HR7 := Lib.hid hrun7
          have HP7 := Lib.hid hP7
          have dj : decide ((j : Int) < 0) = false := decide_eq_false (by omega)
          have hlv : l.length - N < l.length - T.length := by omega
          clear hrun7 hP7 hg hm hlc hlab HZ2
          go_wp2_with (at_builtin; refine wpList_append_run rfl rfl (by simp [Region.wanted]) rfl rfl HR7.out ?_)
          go_roundw
          case rel => exact ⟨T ++ [⟨mf, mt, ms⟩], HP7.out, HGN⟩
          case measure => simpa [lenV] using hlv
      obtain ⟨⟨cf, ct, cs⟩, hit⟩ : ∃ b, l[k]? = some b := ⟨_, List.getElem?_eq_getElem g1⟩
      have HIT := Lib.hid hit
      obtain ⟨la, rfl, hlab, hlc⟩ := (HLT.out) (by intro e; subst e; simp at hit)
      obtain ⟨x0, x1, x2⟩ := hlc k _ hit
      have hlt0 : (la.add (k * 3)).block < w1.heap.size := by rw [add_block]; exact hlab
      have HLW : Hid (∀ W, Below w1.heap.size w1 W → W.cell? (la.add (k * 3)) = some (.string cf) ∧ W.cell? ⟨(la.add (k * 3)).block, (la.add (k * 3)).off + 1, none⟩ = some (.string ct) ∧ W.cell? ⟨(la.add (k * 3)).block, (la.add (k * 3)).off + 2, none⟩ = some (.int .i64 cs)) := Lib.hid fun W hB =>
        ⟨(hB.cell hlt0).trans x0, (hB.cell (p := ⟨_, _, none⟩) hlt0).trans x1, (hB.cell (p := ⟨_, _, none⟩) hlt0).trans x2⟩
      have HLJ : Hid (∀ (j : Nat) (m : Pr), l[j]? = some m → ∀ W, Below w1.heap.size w1 W → W.cell? (la.add (j * 3)) = some (.string m.fr) ∧ W.cell? ⟨(la.add (j * 3)).block, (la.add (j * 3)).off + 1, none⟩ = some (.string m.tt) ∧ W.cell? ⟨(la.add (j * 3)).block, (la.add (j * 3)).off + 2, none⟩ = some (.int .i64 m.sc)) := Lib.hid fun j m hm W hB => by
        obtain ⟨y0, y1, y2⟩ := hlc j m hm
        have hlt : (la.add (j * 3)).block < w1.heap.size := by rw [add_block]; exact hlab
        exact ⟨(hB.cell hlt).trans y0, (hB.cell (p := ⟨_, _, none⟩) hlt).trans y1, (hB.cell (p := ⟨_, _, none⟩) hlt).trans y2⟩
      have HCZ := Lib.hid (HSZ.out _ (List.mem_of_getElem? hit))
      obtain ⟨q0, q1, q2⟩ := HLW.out _ HT.out.2
      obtain ⟨bo, hbo⟩ : ∃ bo, touB T ⟨cf, ct, cs⟩ = bo := ⟨_, rfl⟩
      have HBO := Lib.hid hbo
      clear hit hlab hlc x0 x1 x2 hlt0 hbo
      go_wp2_with fail
      refine (touches_any Av T T.length cv ⟨cf, ct, cs⟩ bo _ (PrsAt.of_own HT.out.1 rfl) rfl (by omega) HBO.out).mono ?_
      rintro e wt ⟨rfl, hbt⟩
      have HTt := Lib.hid (HT.out.up hbt)
      obtain ⟨wr, hwr⟩ : ∃ wr, wr = wt := ⟨_, rfl⟩
      have HT0 : Hid (Prs w1 wr (.slice Av T.length cv) T) := Lib.hid (by rw [hwr]; exact HTt.out)
      rw [← hwr]
      have HLC : Hid (∀ W, Below wr.heap.size wr W → W.cell? (la.add (k * 3)) = some (.string cf) ∧ W.cell? ⟨(la.add (k * 3)).block, (la.add (k * 3)).off + 1, none⟩ = some (.string ct) ∧ W.cell? ⟨(la.add (k * 3)).block, (la.add (k * 3)).off + 2, none⟩ = some (.int .i64 cs)) := Lib.hid fun W hB => HLW.out W (HT0.out.2.trans (hB.mono HT0.out.2.size))
      clear hwr hbt HT HTt HLW q0 q1 q2
      cases bo with
      | true =>
        have HBN : Hid (BestIs l T (k + 1) z) := Lib.hid (HZ.out.skip HIT.out HBO.out)
        go_wp2_with fail
        refine wp_region_noPanic ?_
        refine wp_region_held_drew (S := fun W => Below wr.heap.size wr W) (by kernel_rfl) ((Below.refl wr.heap.size wr).drew) (fun hS0 => ?_)
        change wpAnyH _ _ _ _ _ 17 #[false, false, false, false, false, false, false, false, false, false, false, false, false, false, false, false, false] _ (World.drew _)
        refine wpAnyH_take (i := 0) (v := .bool true) rfl (by kernel_rfl) (by kernel_rfl) (by kernel_rfl) (fun _ _ _ h => h) (Or.inl ⟨by rfl, fun w' hS' => by exact op_move rfl rfl⟩) hS0 ?_
        change wpAnyH _ _ _ _ _ _ _ (Act.put _ (some 28) (.bool true)) _
        simp only [Act.put, List.setIfInBounds_toArray, List.set_cons_zero, List.set_cons_succ]
        refine wpAnyH_take (i := 1) (v := .bool false) rfl (by kernel_rfl) (by kernel_rfl) (by kernel_rfl) (fun _ _ _ h => h) (Or.inl ⟨by rfl, fun w' hS' => by go_simp⟩) hS0 ?_
        change wpAnyH _ _ _ _ _ _ _ (Act.put _ (some 29) (.bool false)) _
        simp only [Act.put, List.setIfInBounds_toArray, List.set_cons_zero, List.set_cons_succ]
        refine wpAnyH_take (i := 2) (v := .bool false) rfl (by kernel_rfl) (by kernel_rfl) (by kernel_rfl) (fun _ _ _ h => h) (Or.inl ⟨by rfl, fun w' hS' => by exact op_move rfl rfl⟩) hS0 ?_
        change wpAnyH _ _ _ _ _ _ _ (Act.put _ (some 30) (.bool false)) _
        simp only [Act.put, List.setIfInBounds_toArray, List.set_cons_zero, List.set_cons_succ]
        refine wpAnyH_take (i := 3) (v := undef) rfl (by kernel_rfl) (by kernel_rfl) (by kernel_rfl) (fun _ _ _ h => h) (Or.inr ⟨by rfl, rfl⟩) hS0 ?_
        change wpAnyH _ _ _ _ _ _ _ (Act.put _ (some 31) (undef)) _
        simp only [Act.put, List.setIfInBounds_toArray, List.set_cons_zero, List.set_cons_succ]
        refine wpAnyH_take (i := 4) (v := undef) rfl (by kernel_rfl) (by kernel_rfl) (by kernel_rfl) (fun _ _ _ h => h) (Or.inr ⟨by rfl, rfl⟩) hS0 ?_
        change wpAnyH _ _ _ _ _ _ _ (Act.put _ (some 32) (undef)) _
        simp only [Act.put, List.setIfInBounds_toArray, List.set_cons_zero, List.set_cons_succ]
        refine wpAnyH_take (i := 5) (v := undef) rfl (by kernel_rfl) (by kernel_rfl) (by kernel_rfl) (fun _ _ _ h => h) (Or.inr ⟨by rfl, rfl⟩) hS0 ?_
        change wpAnyH _ _ _ _ _ _ _ (Act.put _ (some 33) (undef)) _
        simp only [Act.put, List.setIfInBounds_toArray, List.set_cons_zero, List.set_cons_succ]
        refine wpAnyH_take (i := 6) (v := undef) rfl (by kernel_rfl) (by kernel_rfl) (by kernel_rfl) (fun _ _ _ h => h) (Or.inr ⟨by rfl, rfl⟩) hS0 ?_
        change wpAnyH _ _ _ _ _ _ _ (Act.put _ (some 34) (undef)) _
        simp only [Act.put, List.setIfInBounds_toArray, List.set_cons_zero, List.set_cons_succ]
        refine wpAnyH_take (i := 7) (v := undef) rfl (by kernel_rfl) (by kernel_rfl) (by kernel_rfl) (fun _ _ _ h => h) (Or.inr ⟨by rfl, rfl⟩) hS0 ?_
        change wpAnyH _ _ _ _ _ _ _ (Act.put _ (some 35) (undef)) _
        simp only [Act.put, List.setIfInBounds_toArray, List.set_cons_zero, List.set_cons_succ]
        refine wpAnyH_take (i := 8) (v := undef) rfl (by kernel_rfl) (by kernel_rfl) (by kernel_rfl) (fun _ _ _ h => h) (Or.inr ⟨by rfl, rfl⟩) hS0 ?_
        change wpAnyH _ _ _ _ _ _ _ (Act.put _ (some 36) (undef)) _
        simp only [Act.put, List.setIfInBounds_toArray, List.set_cons_zero, List.set_cons_succ]
        refine wpAnyH_take (i := 9) (v := undef) rfl (by kernel_rfl) (by kernel_rfl) (by kernel_rfl) (fun _ _ _ h => h) (Or.inr ⟨by rfl, rfl⟩) hS0 ?_
        change wpAnyH _ _ _ _ _ _ _ (Act.put _ (some 37) (undef)) _
        simp only [Act.put, List.setIfInBounds_toArray, List.set_cons_zero, List.set_cons_succ]
        refine wpAnyH_take (i := 10) (v := undef) rfl (by kernel_rfl) (by kernel_rfl) (by kernel_rfl) (fun _ _ _ h => h) (Or.inr ⟨by rfl, rfl⟩) hS0 ?_
        change wpAnyH _ _ _ _ _ _ _ (Act.put _ (some 38) (undef)) _
        simp only [Act.put, List.setIfInBounds_toArray, List.set_cons_zero, List.set_cons_succ]
        refine wpAnyH_take (i := 11) (v := undef) rfl (by kernel_rfl) (by kernel_rfl) (by kernel_rfl) (fun _ _ _ h => h) (Or.inr ⟨by rfl, rfl⟩) hS0 ?_
        change wpAnyH _ _ _ _ _ _ _ (Act.put _ (some 39) (undef)) _
        simp only [Act.put, List.setIfInBounds_toArray, List.set_cons_zero, List.set_cons_succ]
        refine wpAnyH_take (i := 12) (v := undef) rfl (by kernel_rfl) (by kernel_rfl) (by kernel_rfl) (fun _ _ _ h => h) (Or.inr ⟨by rfl, rfl⟩) hS0 ?_
        change wpAnyH _ _ _ _ _ _ _ (Act.put _ (some 40) (undef)) _
        simp only [Act.put, List.setIfInBounds_toArray, List.set_cons_zero, List.set_cons_succ]
        refine wpAnyH_take (i := 13) (v := undef) rfl (by kernel_rfl) (by kernel_rfl) (by kernel_rfl) (fun _ _ _ h => h) (Or.inr ⟨by rfl, rfl⟩) hS0 ?_
        change wpAnyH _ _ _ _ _ _ _ (Act.put _ (some 41) (undef)) _
        simp only [Act.put, List.setIfInBounds_toArray, List.set_cons_zero, List.set_cons_succ]
        refine wpAnyH_take (i := 14) (v := undef) rfl (by kernel_rfl) (by kernel_rfl) (by kernel_rfl) (fun _ _ _ h => h) (Or.inr ⟨by rfl, rfl⟩) hS0 ?_
        change wpAnyH _ _ _ _ _ _ _ (Act.put _ (some 42) (undef)) _
        simp only [Act.put, List.setIfInBounds_toArray, List.set_cons_zero, List.set_cons_succ]
        refine wpAnyH_take (i := 15) (v := undef) rfl (by kernel_rfl) (by kernel_rfl) (by kernel_rfl) (fun _ _ _ h => h) (Or.inr ⟨by rfl, rfl⟩) hS0 ?_
        change wpAnyH _ _ _ _ _ _ _ (Act.put _ (some 43) (undef)) _
        simp only [Act.put, List.setIfInBounds_toArray, List.set_cons_zero, List.set_cons_succ]
        refine wpAnyH_take (i := 16) (v := .bool false) rfl (by kernel_rfl) (by kernel_rfl) (by kernel_rfl) (fun _ _ _ h => h) (Or.inl ⟨by rfl, fun w' hS' => by go_simp⟩) hS0 ?_
        change wpAnyH _ _ _ _ _ _ _ (Act.put _ (some 44) (.bool false)) _
        simp only [Act.put, List.setIfInBounds_toArray, List.set_cons_zero, List.set_cons_succ]
        refine wpAnyH_done (by kernel_rfl) ?_ _
        refine NoPanic.normal ?_
        go_simp
        go_wp2_with fail
        go_roundw
        case rel => exact ⟨k + 1, z, by omega, by go_num, rfl, HT0.out.up hS0, HBN.out⟩
        case measure => simp [intOf]; omega
      | false =>
      rcases (show z = -1 ∨ ∃ (j : Nat) (m : Pr), z = (j : Int) ∧ l[j]? = some m by
        rcases HZ.out with ⟨h, _⟩ | ⟨j, m, h, _, h3, _⟩
        · exact .inl h
        · exact .inr ⟨j, m, h, h3⟩) with hz | ⟨j, ⟨mf, mt, ms⟩, hz, hm⟩
      · subst hz
        have HBN : Hid (BestIs l T (k + 1) (k : Int)) := Lib.hid (HZ.out.first HIT.out HBO.out)
        go_wp2_with fail
        refine wp_region_noPanic ?_
        refine wp_region_held_drew (S := fun W => Below wr.heap.size wr W) (by kernel_rfl) ((Below.refl wr.heap.size wr).drew) (fun hS0 => ?_)
        change wpAnyH _ _ _ _ _ 17 #[false, false, false, false, false, false, false, false, false, false, false, false, false, false, false, false, false] _ (World.drew _)
        refine wpAnyH_take (i := 0) (v := .bool false) rfl (by kernel_rfl) (by kernel_rfl) (by kernel_rfl) (fun _ _ _ h => h) (Or.inl ⟨by rfl, fun w' hS' => by exact op_move rfl rfl⟩) hS0 ?_
        change wpAnyH _ _ _ _ _ _ _ (Act.put _ (some 28) (.bool false)) _
        simp only [Act.put, List.setIfInBounds_toArray, List.set_cons_zero, List.set_cons_succ]
        refine wpAnyH_take (i := 1) (v := .bool true) rfl (by kernel_rfl) (by kernel_rfl) (by kernel_rfl) (fun _ _ _ h => h) (Or.inl ⟨by rfl, fun w' hS' => by go_simp⟩) hS0 ?_
        change wpAnyH _ _ _ _ _ _ _ (Act.put _ (some 29) (.bool true)) _
        simp only [Act.put, List.setIfInBounds_toArray, List.set_cons_zero, List.set_cons_succ]
        refine wpAnyH_take (i := 2) (v := .bool true) rfl (by kernel_rfl) (by kernel_rfl) (by kernel_rfl) (fun _ _ _ h => h) (Or.inl ⟨by rfl, fun w' hS' => by exact op_move rfl rfl⟩) hS0 ?_
        change wpAnyH _ _ _ _ _ _ _ (Act.put _ (some 30) (.bool true)) _
        simp only [Act.put, List.setIfInBounds_toArray, List.set_cons_zero, List.set_cons_succ]
        refine wpAnyH_take (i := 3) (v := .int .i64 (-1)) rfl (by kernel_rfl) (by kernel_rfl) (by kernel_rfl) (fun _ _ _ h => h) (Or.inl ⟨by rfl, fun w' hS' => by exact op_move rfl rfl⟩) hS0 ?_
        change wpAnyH _ _ _ _ _ _ _ (Act.put _ (some 31) (.int .i64 (-1))) _
        simp only [Act.put, List.setIfInBounds_toArray, List.set_cons_zero, List.set_cons_succ]
        refine wpAnyH_take (i := 4) (v := .bool true) rfl (by kernel_rfl) (by kernel_rfl) (by kernel_rfl) (fun _ _ _ h => h) (Or.inl ⟨by rfl, fun w' hS' => by go_simp⟩) hS0 ?_
        change wpAnyH _ _ _ _ _ _ _ (Act.put _ (some 32) (.bool true)) _
        simp only [Act.put, List.setIfInBounds_toArray, List.set_cons_zero, List.set_cons_succ]
        refine wpAnyH_take (i := 5) (v := .bool true) rfl (by kernel_rfl) (by kernel_rfl) (by kernel_rfl) (fun _ _ _ h => h) (Or.inl ⟨by rfl, fun w' hS' => by exact op_move rfl rfl⟩) hS0 ?_
        change wpAnyH _ _ _ _ _ _ _ (Act.put _ (some 33) (.bool true)) _
        simp only [Act.put, List.setIfInBounds_toArray, List.set_cons_zero, List.set_cons_succ]
        refine wpAnyH_take (i := 6) (v := undef) rfl (by kernel_rfl) (by kernel_rfl) (by kernel_rfl) (fun _ _ _ h => h) (Or.inr ⟨by rfl, rfl⟩) hS0 ?_
        change wpAnyH _ _ _ _ _ _ _ (Act.put _ (some 34) (undef)) _
        simp only [Act.put, List.setIfInBounds_toArray, List.set_cons_zero, List.set_cons_succ]
        refine wpAnyH_take (i := 7) (v := undef) rfl (by kernel_rfl) (by kernel_rfl) (by kernel_rfl) (fun _ _ _ h => h) (Or.inr ⟨by rfl, rfl⟩) hS0 ?_
        change wpAnyH _ _ _ _ _ _ _ (Act.put _ (some 35) (undef)) _
        simp only [Act.put, List.setIfInBounds_toArray, List.set_cons_zero, List.set_cons_succ]
        refine wpAnyH_take (i := 8) (v := undef) rfl (by kernel_rfl) (by kernel_rfl) (by kernel_rfl) (fun _ _ _ h => h) (Or.inr ⟨by rfl, rfl⟩) hS0 ?_
        change wpAnyH _ _ _ _ _ _ _ (Act.put _ (some 36) (undef)) _
        simp only [Act.put, List.setIfInBounds_toArray, List.set_cons_zero, List.set_cons_succ]
        refine wpAnyH_take (i := 9) (v := undef) rfl (by kernel_rfl) (by kernel_rfl) (by kernel_rfl) (fun _ _ _ h => h) (Or.inr ⟨by rfl, rfl⟩) hS0 ?_
        change wpAnyH _ _ _ _ _ _ _ (Act.put _ (some 37) (undef)) _
        simp only [Act.put, List.setIfInBounds_toArray, List.set_cons_zero, List.set_cons_succ]
        refine wpAnyH_take (i := 10) (v := undef) rfl (by kernel_rfl) (by kernel_rfl) (by kernel_rfl) (fun _ _ _ h => h) (Or.inr ⟨by rfl, rfl⟩) hS0 ?_
        change wpAnyH _ _ _ _ _ _ _ (Act.put _ (some 38) (undef)) _
        simp only [Act.put, List.setIfInBounds_toArray, List.set_cons_zero, List.set_cons_succ]
        refine wpAnyH_take (i := 11) (v := undef) rfl (by kernel_rfl) (by kernel_rfl) (by kernel_rfl) (fun _ _ _ h => h) (Or.inr ⟨by rfl, rfl⟩) hS0 ?_
        change wpAnyH _ _ _ _ _ _ _ (Act.put _ (some 39) (undef)) _
        simp only [Act.put, List.setIfInBounds_toArray, List.set_cons_zero, List.set_cons_succ]
        refine wpAnyH_take (i := 12) (v := undef) rfl (by kernel_rfl) (by kernel_rfl) (by kernel_rfl) (fun _ _ _ h => h) (Or.inr ⟨by rfl, rfl⟩) hS0 ?_
        change wpAnyH _ _ _ _ _ _ _ (Act.put _ (some 40) (undef)) _
        simp only [Act.put, List.setIfInBounds_toArray, List.set_cons_zero, List.set_cons_succ]
        refine wpAnyH_take (i := 13) (v := undef) rfl (by kernel_rfl) (by kernel_rfl) (by kernel_rfl) (fun _ _ _ h => h) (Or.inr ⟨by rfl, rfl⟩) hS0 ?_
        change wpAnyH _ _ _ _ _ _ _ (Act.put _ (some 41) (undef)) _
        simp only [Act.put, List.setIfInBounds_toArray, List.set_cons_zero, List.set_cons_succ]
        refine wpAnyH_take (i := 14) (v := undef) rfl (by kernel_rfl) (by kernel_rfl) (by kernel_rfl) (fun _ _ _ h => h) (Or.inr ⟨by rfl, rfl⟩) hS0 ?_
        change wpAnyH _ _ _ _ _ _ _ (Act.put _ (some 42) (undef)) _
        simp only [Act.put, List.setIfInBounds_toArray, List.set_cons_zero, List.set_cons_succ]
        refine wpAnyH_take (i := 15) (v := .bool true) rfl (by kernel_rfl) (by kernel_rfl) (by kernel_rfl) (fun _ _ _ h => h) (Or.inl ⟨by rfl, fun w' hS' => by go_simp⟩) hS0 ?_
        change wpAnyH _ _ _ _ _ _ _ (Act.put _ (some 43) (.bool true)) _
        simp only [Act.put, List.setIfInBounds_toArray, List.set_cons_zero, List.set_cons_succ]
        refine wpAnyH_take (i := 16) (v := .bool true) rfl (by kernel_rfl) (by kernel_rfl) (by kernel_rfl) (fun _ _ _ h => h) (Or.inl ⟨by rfl, fun w' hS' => by go_simp⟩) hS0 ?_
        change wpAnyH _ _ _ _ _ _ _ (Act.put _ (some 44) (.bool true)) _
        simp only [Act.put, List.setIfInBounds_toArray, List.set_cons_zero, List.set_cons_succ]
        refine wpAnyH_done (by kernel_rfl) ?_ _
        refine NoPanic.normal ?_
        go_simp
        go_wp2_with fail
        go_roundw
        case rel => exact ⟨k + 1, (k : Int), by omega, by go_num, rfl, HT0.out.up hS0, HBN.out⟩
        case measure => simp [intOf]; omega
      subst hz
      have HNX := Lib.hid (HZ.out.next hm HIT.out HBO.out)
      have HMZ := Lib.hid (HSZ.out _ (List.mem_of_getElem? hm))
      have hjl : j < l.length := (List.getElem?_eq_some_iff.1 hm).1
      have HLM : Hid (∀ W, Below wr.heap.size wr W → W.cell? (la.add (j * 3)) = some (.string mf) ∧ W.cell? ⟨(la.add (j * 3)).block, (la.add (j * 3)).off + 1, none⟩ = some (.string mt) ∧ W.cell? ⟨(la.add (j * 3)).block, (la.add (j * 3)).off + 2, none⟩ = some (.int .i64 ms)) := Lib.hid fun W hB => HLJ.out j _ hm W (HT0.out.2.trans (hB.mono HT0.out.2.size))
      have dj : decide ((j : Int) < 0) = false := decide_eq_false (by omega)
      obtain ⟨bv, hbv⟩ : ∃ bv, decide (btr ⟨cf, ct, cs⟩ ⟨mf, mt, ms⟩) = bv := ⟨_, rfl⟩
      have HBV := Lib.hid hbv
      clear hm hbv
      go_wp2_with fail
      refine wp_region_noPanic ?_
      refine wp_region_held_drew (S := fun W => Below wr.heap.size wr W) (by kernel_rfl) ((Below.refl wr.heap.size wr).drew) (fun hS0 => ?_)
      change wpAnyH _ _ _ _ _ 17 #[false, false, false, false, false, false, false, false, false, false, false, false, false, false, false, false, false] _ (World.drew _)
      refine wpAnyH_take (i := 0) (v := .bool false) rfl (by kernel_rfl) (by kernel_rfl) (by kernel_rfl) (fun _ _ _ h => h) (Or.inl ⟨by rfl, fun w' hS' => by exact op_move rfl rfl⟩) hS0 ?_
      change wpAnyH _ _ _ _ _ _ _ (Act.put _ (some 28) (.bool false)) _
      simp only [Act.put, List.setIfInBounds_toArray, List.set_cons_zero, List.set_cons_succ]
      refine wpAnyH_take (i := 1) (v := .bool true) rfl (by kernel_rfl) (by kernel_rfl) (by kernel_rfl) (fun _ _ _ h => h) (Or.inl ⟨by rfl, fun w' hS' => by go_simp⟩) hS0 ?_
      change wpAnyH _ _ _ _ _ _ _ (Act.put _ (some 29) (.bool true)) _
      simp only [Act.put, List.setIfInBounds_toArray, List.set_cons_zero, List.set_cons_succ]
      refine wpAnyH_take (i := 2) (v := .bool true) rfl (by kernel_rfl) (by kernel_rfl) (by kernel_rfl) (fun _ _ _ h => h) (Or.inl ⟨by rfl, fun w' hS' => by exact op_move rfl rfl⟩) hS0 ?_
      change wpAnyH _ _ _ _ _ _ _ (Act.put _ (some 30) (.bool true)) _
      simp only [Act.put, List.setIfInBounds_toArray, List.set_cons_zero, List.set_cons_succ]
      refine wpAnyH_take (i := 3) (v := .int .i64 (j : Int)) rfl (by kernel_rfl) (by kernel_rfl) (by kernel_rfl) (fun _ _ _ h => h) (Or.inl ⟨by rfl, fun w' hS' => by exact op_move rfl rfl⟩) hS0 ?_
      change wpAnyH _ _ _ _ _ _ _ (Act.put _ (some 31) (.int .i64 (j : Int))) _
      simp only [Act.put, List.setIfInBounds_toArray, List.set_cons_zero, List.set_cons_succ]
      refine wpAnyH_take (i := 4) (v := .bool false) rfl (by kernel_rfl) (by kernel_rfl) (by kernel_rfl) (fun _ _ _ h => h) (Or.inl ⟨by rfl, fun w' hS' => by go_simp⟩) hS0 ?_
      change wpAnyH _ _ _ _ _ _ _ (Act.put _ (some 32) (.bool false)) _
      simp only [Act.put, List.setIfInBounds_toArray, List.set_cons_zero, List.set_cons_succ]
      refine wpAnyH_take (i := 5) (v := .bool false) rfl (by kernel_rfl) (by kernel_rfl) (by kernel_rfl) (fun _ _ _ h => h) (Or.inl ⟨by rfl, fun w' hS' => by exact op_move rfl rfl⟩) hS0 ?_
      change wpAnyH _ _ _ _ _ _ _ (Act.put _ (some 33) (.bool false)) _
      simp only [Act.put, List.setIfInBounds_toArray, List.set_cons_zero, List.set_cons_succ]
      refine wpAnyH_take (i := 6) (v := .slice (some la) l.length lc) rfl (by kernel_rfl) (by kernel_rfl) (by kernel_rfl) (fun _ _ _ h => h) (Or.inl ⟨by rfl, fun w' hS' => by exact op_move rfl rfl⟩) hS0 ?_
      change wpAnyH _ _ _ _ _ _ _ (Act.put _ (some 34) (.slice (some la) l.length lc)) _
      simp only [Act.put, List.setIfInBounds_toArray, List.set_cons_zero, List.set_cons_succ]
      refine wpAnyH_take (i := 7) (v := .int .i64 (k : Int)) rfl (by kernel_rfl) (by kernel_rfl) (by kernel_rfl) (fun _ _ _ h => h) (Or.inl ⟨by rfl, fun w' hS' => by exact op_move rfl rfl⟩) hS0 ?_
      change wpAnyH _ _ _ _ _ _ _ (Act.put _ (some 35) (.int .i64 (k : Int))) _
      simp only [Act.put, List.setIfInBounds_toArray, List.set_cons_zero, List.set_cons_succ]
      refine wpAnyH_take (i := 8) (v := .pointer (some (la.add (k * 3)))) rfl (by kernel_rfl) (by kernel_rfl) (by kernel_rfl) (fun _ _ _ h => h) (Or.inl ⟨by rfl, fun w' hS' => by go_simp⟩) hS0 ?_
      change wpAnyH _ _ _ _ _ _ _ (Act.put _ (some 36) (.pointer (some (la.add (k * 3))))) _
      simp only [Act.put, List.setIfInBounds_toArray, List.set_cons_zero, List.set_cons_succ]
      refine wpAnyH_take (i := 9) (v := .agg #[.string cf, .string ct, .int .i64 cs]) rfl (by kernel_rfl) (by kernel_rfl) (by kernel_rfl) (fun _ _ _ h => h) (Or.inl ⟨by rfl, fun w' hS' => by obtain ⟨h0, h1, h2⟩ := HLC.out _ hS'; go_simp⟩) hS0 ?_
      change wpAnyH _ _ _ _ _ _ _ (Act.put _ (some 37) (.agg #[.string cf, .string ct, .int .i64 cs])) _
      simp only [Act.put, List.setIfInBounds_toArray, List.set_cons_zero, List.set_cons_succ]
      refine wpAnyH_take (i := 10) (v := .slice (some la) l.length lc) rfl (by kernel_rfl) (by kernel_rfl) (by kernel_rfl) (fun _ _ _ h => h) (Or.inl ⟨by rfl, fun w' hS' => by exact op_move rfl rfl⟩) hS0 ?_
      change wpAnyH _ _ _ _ _ _ _ (Act.put _ (some 38) (.slice (some la) l.length lc)) _
      simp only [Act.put, List.setIfInBounds_toArray, List.set_cons_zero, List.set_cons_succ]
      refine wpAnyH_take (i := 11) (v := .int .i64 (j : Int)) rfl (by kernel_rfl) (by kernel_rfl) (by kernel_rfl) (fun _ _ _ h => h) (Or.inl ⟨by rfl, fun w' hS' => by exact op_move rfl rfl⟩) hS0 ?_
      change wpAnyH _ _ _ _ _ _ _ (Act.put _ (some 39) (.int .i64 (j : Int))) _
      simp only [Act.put, List.setIfInBounds_toArray, List.set_cons_zero, List.set_cons_succ]
      refine wpAnyH_take (i := 12) (v := .pointer (some (la.add (j * 3)))) rfl (by kernel_rfl) (by kernel_rfl) (by kernel_rfl) (fun _ _ _ h => h) (Or.inl ⟨by rfl, fun w' hS' => by go_simp⟩) hS0 ?_
      change wpAnyH _ _ _ _ _ _ _ (Act.put _ (some 40) (.pointer (some (la.add (j * 3))))) _
      simp only [Act.put, List.setIfInBounds_toArray, List.set_cons_zero, List.set_cons_succ]
      refine wpAnyH_take (i := 13) (v := .agg #[.string mf, .string mt, .int .i64 ms]) rfl (by kernel_rfl) (by kernel_rfl) (by kernel_rfl) (fun _ _ _ h => h) (Or.inl ⟨by rfl, fun w' hS' => by obtain ⟨h0, h1, h2⟩ := HLM.out _ hS'; go_simp⟩) hS0 ?_
      change wpAnyH _ _ _ _ _ _ _ (Act.put _ (some 41) (.agg #[.string mf, .string mt, .int .i64 ms])) _
      simp only [Act.put, List.setIfInBounds_toArray, List.set_cons_zero, List.set_cons_succ]
      refine wpAnyH_ready (rs := [14]) (by kernel_rfl) (by simp) (AllReadyH.cons rfl (fun K hK => ?_) (AllReadyH.nil))
      · skip
        go_simp
        refine (better_v cf ct mf mt cs ms _ HCZ.out.1 HMZ.out.1 HCZ.out.2 HMZ.out.2 bv HBV.out).mono ?_
        rintro e ws ⟨rfl, hb⟩
        refine hK.out _ _ (hS0.trans (hb.mono hS0.size)) (fun hS1 => ?_)
        clear hK K
        simp only [List.setIfInBounds_toArray, List.set_cons_zero, List.set_cons_succ]
        refine wpAnyH_take (i := 15) (v := .bool bv) rfl (by kernel_rfl) (by kernel_rfl) (by kernel_rfl) (fun _ _ _ h => h) (Or.inl ⟨by rfl, fun w' hS' => by go_simp⟩) hS1 ?_
        change wpAnyH _ _ _ _ _ _ _ (Act.put _ (some 43) (.bool bv)) _
        simp only [Act.put, List.setIfInBounds_toArray, List.set_cons_zero, List.set_cons_succ]
        refine wpAnyH_take (i := 16) (v := .bool bv) rfl (by kernel_rfl) (by kernel_rfl) (by kernel_rfl) (fun _ _ _ h => h) (Or.inl ⟨by rfl, fun w' hS' => by go_simp⟩) hS1 ?_
        change wpAnyH _ _ _ _ _ _ _ (Act.put _ (some 44) (.bool bv)) _
        simp only [Act.put, List.setIfInBounds_toArray, List.set_cons_zero, List.set_cons_succ]
        refine wpAnyH_done (by kernel_rfl) ?_ _
        refine NoPanic.normal ?_
        go_simp
        cases bv with
        | true =>
          have HBN : Hid (BestIs l T (k + 1) (k : Int)) := Lib.hid (by have := HNX.out; rwa [if_pos (of_decide_eq_true HBV.out)] at this)
          go_wp2_with fail
          go_roundw
          case rel => exact ⟨k + 1, (k : Int), by omega, by go_num, rfl, HT0.out.up hS1, HBN.out⟩
          case measure => simp [intOf]; omega
        | false =>
          have HBN : Hid (BestIs l T (k + 1) (j : Int)) := Lib.hid (by have := HNX.out; rwa [if_neg (of_decide_eq_false HBV.out)] at this)
          go_wp2_with fail
          go_roundw
          case rel => exact ⟨k + 1, (j : Int), by omega, by go_num, rfl, HT0.out.up hS1, HBN.out⟩
          case measure => simp [intOf]; omega

theorem rpairs_any (A B : Option Addr) (its1 its2 : List It) (n1 n2 c d : Nat) (t : Int) (w : World) (ha : ItemsAt w A its1) (hb : ItemsAt w B its2) (hn1 : its1.length = n1) (hn2 : its2.length = n2) (h1 : FitI its1) (h2 : FitI its2) :
    Calls Try.prog 14 #[.slice A n1 c, .slice B n2 d, .int .i64 t] w fun e w' => ∃ v L, e = .returned v ∧ Prs w w' v L ∧ IsP (CandM (fl its1) (fl its2) t) L :=
  rpairsC_any _ A B its1 its2 n1 n2 c d t w ha hb hn1 hn2 h1 h2 _ rfl (fun c => cand_is c)

end Go.Proofs.Ytdnckhagknlfhaa
