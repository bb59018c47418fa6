/-
  collatorref08.sorted: pairs, those whose To is less first. Nothing that was there is changed. (The orders of the drawn regions are written out by a script.)
-/
import Derived.Test.YtdnckhagknlfhaaTnCand
import Derived.Test.YtdnckhagknlfhaaCmpx
namespace Go.Proofs.Ytdnckhagknlfhaa
open Go.RowKit

/-- none is less than one ahead of it -/
def SortP (O : List Pr) : Prop := O.Pairwise fun x y => ¬ plt y.tt x.tt
theorem ins_sorted {O : List Pr} {p : Pr} {q : Nat} (hO : SortP O) (h1 : ∀ x ∈ O.drop q, plt p.tt x.tt) (h2 : ∀ x ∈ O.take q, ¬ plt p.tt x.tt) : SortP (O.take q ++ [p] ++ O.drop q) := by
  have hs : O.take q ++ O.drop q = O := List.take_append_drop q O
  unfold SortP at hO ⊢
  rw [← hs, List.pairwise_append] at hO
  obtain ⟨ha, hb, hc⟩ := hO
  rw [List.append_assoc, List.pairwise_append]
  refine ⟨ha, ?_, ?_⟩
  · rw [List.singleton_append, List.pairwise_cons]
    exact ⟨fun y hy => fun h => plt_asymm (h1 y hy) h, hb⟩
  · intro x hx y hy
    rcases List.mem_cons.1 (by simpa using hy) with rfl | hy
    · exact h2 x hx
    · exact hc x hx y (by simpa using hy)
theorem take_not {O : List Pr} {p x0 : Pr} {q r : Nat} (hO : SortP O) (hr : q = r + 1) (hx0 : O[r]? = some x0) (hn : ¬ plt p.tt x0.tt) : ∀ x ∈ O.take q, ¬ plt p.tt x.tt := by
  intro x hx h
  obtain ⟨j, hj, rfl⟩ := List.mem_iff_getElem.1 hx
  rw [List.length_take] at hj
  obtain ⟨hrl, rfl⟩ := List.getElem?_eq_some_iff.1 hx0
  rw [List.getElem_take] at h
  rcases Nat.lt_or_ge j r with g | g
  · have h3 : ¬ plt O[r].tt O[j].tt := List.pairwise_iff_getElem.1 hO j r (by omega) hrl g
    rcases plt_total O[j].tt O[r].tt with h4 | h4 | h4
    · exact hn (plt_trans h h4)
    · rw [h4] at h; exact hn h
    · exact h3 h4
  · have : j = r := by omega
    subst this
    exact hn h
theorem drop_more {O : List Pr} {p x0 : Pr} {q r : Nat} (hr : q = r + 1) (hx0 : O[r]? = some x0) (h : plt p.tt x0.tt) (hd : ∀ x ∈ O.drop q, plt p.tt x.tt) : ∀ x ∈ O.drop r, plt p.tt x.tt := by
  obtain ⟨hrl, rfl⟩ := List.getElem?_eq_some_iff.1 hx0
  intro x hx
  rw [List.drop_eq_getElem_cons hrl] at hx
  rcases List.mem_cons.1 hx with rfl | hx
  · exact h
  · rw [← hr] at hx; exact hd x hx
theorem ins_perm {O M : List Pr} {p : Pr} {q : Nat} (h : O.Perm M) : (O.take q ++ [p] ++ O.drop q).Perm (M ++ [p]) := by
  have h1 : (O.take q ++ [p] ++ O.drop q).Perm (O ++ [p]) := by
    have h2 : ([p] ++ O.drop q).Perm (O.drop q ++ [p]) := List.perm_append_comm
    have h3 := h2.append_left (O.take q)
    rw [← List.append_assoc, ← List.append_assoc, List.take_append_drop] at h3
    exact h3
  exact h1.trans (h.append_right [p])
theorem drop_here {w : World} {A : Option Addr} {L : List Pr} {k c : Nat} (hq : c = k) (hk : k ≤ L.length) (hc : L.length ≤ c) (h : PrsAt w A L) : PrsAt w A (L.drop k) := by
  have := h.drop k c hk hc
  rwa [if_pos hq] at this
theorem drop_there {w : World} {A : Option Addr} {L : List Pr} {k c : Nat} (hq : ¬ c = k) (hk : k ≤ L.length) (hc : L.length ≤ c) (h : PrsAt w A L) : PrsAt w (A.map (·.add (k * 3))) (L.drop k) := by
  have := h.drop k c hk hc
  rwa [if_neg hq] at this

set_option maxHeartbeats 8000000 in
set_option maxRecDepth 100000 in
theorem sorted_any (A : Option Addr) (l : List Pr) (n c : Nat) (w : World) (ha : PrsAt w A l) (hn : l.length = n) (h1 : n ≤ 65000) (hsz : ∀ p ∈ l, p.tt.size ≤ 1048576) :
    Calls Try.prog 30 #[.slice A n c] w fun e w' => ∃ v O, e = .returned v ∧ Prs w w' v O ∧ O.Perm l ∧ SortP O := by
  subst hn
  have HA := Lib.hid ha
  have HSZ := Lib.hid hsz
  clear ha hsz
  go_enter Try.func30, Try.ntmps30
  go_wp2_with fail
  go_loopw [3, 4] (fun v i wr => ∃ (k : Nat) (O : List Pr), k ≤ l.length ∧ i = .int .i64 k ∧ Prs w wr v O ∧ Hid (O.Perm (l.take k)) ∧ Hid (SortP O)) (fun _ i _ => l.length - (intOf i).toNat)
  case atStart => exact ⟨0, [], Nat.zero_le _, rfl, Prs.nil w, Lib.hid (by rw [List.take_zero]), Lib.hid List.Pairwise.nil⟩
  case round =>
    obtain ⟨k, O, hk, rfl, hO, HPE, HSO⟩ := hrel
    have hol : O.length = k := by have := HPE.out.length_eq; rw [List.length_take] at this; omega
    have hol2 : O.length ≤ 65000 := by omega
    have HOL := Lib.hid hol
    clear hol
    obtain ⟨oA, co, rfl⟩ := own_slice hO.1
    have HO := Lib.hid hO
    clear hO
    by_cases g1 : k < l.length
    case neg =>
      have HE : Hid (O.Perm l) := Lib.hid (by have := HPE.out; rwa [List.take_of_length_le (by omega)] at this)
      go_wp2_with fail
      go_ret
      exact ⟨_, O, rfl, HO.out, HE.out, HSO.out⟩
    obtain ⟨⟨lf, lt, ls⟩, hit⟩ : ∃ b, l[k]? = some b := ⟨_, List.getElem?_eq_getElem g1⟩
    have HPN : Hid (∀ q, (O.take q ++ [(⟨lf, lt, ls⟩ : Pr)] ++ O.drop q).Perm (l.take (k + 1))) := Lib.hid fun q => by
      obtain ⟨hkl, e⟩ := List.getElem?_eq_some_iff.1 hit
      rw [List.take_succ_eq_append_getElem hkl, e]
      exact ins_perm HPE.out
    have HLS : Hid (lt.size ≤ 1048576) := Lib.hid (HSZ.out _ (List.mem_of_getElem? hit))
    have HSZO : Hid (∀ p ∈ O, p.tt.size ≤ 1048576) := Lib.hid fun p hp => HSZ.out p (List.mem_of_mem_take (HPE.out.mem_iff.1 hp))
    obtain ⟨la, rfl, hlab, hlc⟩ := HA.out (by intro e; subst e; simp at hit)
    obtain ⟨x0, x1, x2⟩ := hlc k _ hit
    have HLW : Hid (∀ W, Below w.heap.size w W → W.cell? (la.add (k * 3)) = some (.string lf) ∧ W.cell? ⟨(la.add (k * 3)).block, (la.add (k * 3)).off + 1, none⟩ = some (.string lt) ∧ W.cell? ⟨(la.add (k * 3)).block, (la.add (k * 3)).off + 2, none⟩ = some (.int .i64 ls)) := Lib.hid fun W hB => by
      have hlt : (la.add (k * 3)).block < w.heap.size := by rw [add_block]; exact hlab
      exact ⟨(hB.cell hlt).trans x0, (hB.cell (p := ⟨_, _, none⟩) hlt).trans x1, (hB.cell (p := ⟨_, _, none⟩) hlt).trans x2⟩
    clear hit hlab hlc x0 x1 x2
    go_wp2_with fail
    go_loopw [5] (fun i wy => ∃ q : Nat, q ≤ O.length ∧ i = .int .i64 q ∧ Prs w wy (.slice oA O.length co) O ∧ Hid (∀ x ∈ O.drop q, plt lt x.tt)) (fun i _ => (intOf i).toNat)
    case atStart => exact ⟨O.length, Nat.le_refl _, rfl, HO.out, Lib.hid (fun x hx => by rw [List.drop_length] at hx; cases hx)⟩
    case round =>
      clear HO
      obtain ⟨q, hq, rfl, hO, HD⟩ := hrel
      have HO0 := Lib.hid hO
      have HOB0 := Lib.hid hO.2
      have HOT0 := Lib.hid (PrsAt.of_own hO.1 rfl)
      have hcap := hO.cap
      have HCAP := Lib.hid hcap
      have HQ := Lib.hid hq
      have HLA0 : Hid (∀ W, Below wr.heap.size wr W → W.cell? (la.add (k * 3)) = some (.string lf) ∧ W.cell? ⟨(la.add (k * 3)).block, (la.add (k * 3)).off + 1, none⟩ = some (.string lt) ∧ W.cell? ⟨(la.add (k * 3)).block, (la.add (k * 3)).off + 2, none⟩ = some (.int .i64 ls)) := Lib.hid fun W hB => HLW.out W (HOB0.out.trans (hB.mono HOB0.out.size))
      have HLC : Hid (∀ W, Below wr.heap.size wr W → W.cell? ⟨(la.add (k * 3)).block, (la.add (k * 3)).off + 1, none⟩ = some (.string lt)) := Lib.hid fun W hB => (HLA0.out W hB).2.1
      obtain ⟨N, hN⟩ : ∃ N, N = O.take q ++ [(⟨lf, lt, ls⟩ : Pr)] ++ O.drop q := ⟨_, rfl⟩
      have HNE := Lib.hid hN
      have HNP : Hid (N.Perm (l.take (k + 1))) := Lib.hid (by rw [hN]; exact HPN.out q)
      have HNL : Hid (N.length ≤ 65536) := Lib.hid (by have := HNP.out.length_eq; rw [List.length_take] at this; omega)
      clear hO hN
      by_cases hq0 : 0 < q
      case neg =>
        have f1 : decide ((0 : Int) < (q : Int)) = false := decide_eq_false (by omega)
        have f2 : decide (0 < q) = false := decide_eq_false (by omega)
        have HNS : Hid (SortP N) := Lib.hid (by rw [HNE.out]; exact ins_sorted HSO.out HD.out (fun x hx => by rw [show q = 0 from by omega, List.take_zero] at hx; cases hx))
        clear hq0
        go_wp2_with fail
        refine wp_region_noPanic ?_
        refine wp_region_held_drew (S := fun W => Below wr.heap.size wr W) (by kernel_rfl) ((Below.refl wr.heap.size wr).drew) (fun hS0 => ?_)
        change wpAnyH _ _ _ _ _ 17 #[false, false, false, false, false, false, false, false, false, false, false, false, false, false, false, false, false] _ (World.drew _)
        refine wpAnyH_take (i := 0) (v := .int .i64 (q : Int)) rfl (by kernel_rfl) (by kernel_rfl) (by kernel_rfl) (fun _ _ _ h => h) (Or.inl ⟨by rfl, fun w' hS' => by exact op_move rfl rfl⟩) hS0 ?_
        change wpAnyH _ _ _ _ _ _ _ (Act.put _ (some 14) (.int .i64 (q : Int))) _
        simp only [Act.put, List.setIfInBounds_toArray, List.set_cons_zero, List.set_cons_succ]
        refine wpAnyH_take (i := 1) (v := .bool false) rfl (by kernel_rfl) (by kernel_rfl) (by kernel_rfl) (fun _ _ _ h => h) (Or.inl ⟨by rfl, fun w' hS' => by go_simp⟩) hS0 ?_
        change wpAnyH _ _ _ _ _ _ _ (Act.put _ (some 15) (.bool false)) _
        simp only [Act.put, List.setIfInBounds_toArray, List.set_cons_zero, List.set_cons_succ]
        refine wpAnyH_take (i := 2) (v := .bool false) rfl (by kernel_rfl) (by kernel_rfl) (by kernel_rfl) (fun _ _ _ h => h) (Or.inl ⟨by rfl, fun w' hS' => by exact op_move rfl rfl⟩) hS0 ?_
        change wpAnyH _ _ _ _ _ _ _ (Act.put _ (some 16) (.bool false)) _
        simp only [Act.put, List.setIfInBounds_toArray, List.set_cons_zero, List.set_cons_succ]
        refine wpAnyH_take (i := 3) (v := undef) rfl (by kernel_rfl) (by kernel_rfl) (by kernel_rfl) (fun _ _ _ h => h) (Or.inr ⟨by rfl, rfl⟩) hS0 ?_
        change wpAnyH _ _ _ _ _ _ _ (Act.put _ (some 17) (undef)) _
        simp only [Act.put, List.setIfInBounds_toArray, List.set_cons_zero, List.set_cons_succ]
        refine wpAnyH_take (i := 4) (v := undef) rfl (by kernel_rfl) (by kernel_rfl) (by kernel_rfl) (fun _ _ _ h => h) (Or.inr ⟨by rfl, rfl⟩) hS0 ?_
        change wpAnyH _ _ _ _ _ _ _ (Act.put _ (some 18) (undef)) _
        simp only [Act.put, List.setIfInBounds_toArray, List.set_cons_zero, List.set_cons_succ]
        refine wpAnyH_take (i := 5) (v := undef) rfl (by kernel_rfl) (by kernel_rfl) (by kernel_rfl) (fun _ _ _ h => h) (Or.inr ⟨by rfl, rfl⟩) hS0 ?_
        change wpAnyH _ _ _ _ _ _ _ (Act.put _ (some 19) (undef)) _
        simp only [Act.put, List.setIfInBounds_toArray, List.set_cons_zero, List.set_cons_succ]
        refine wpAnyH_take (i := 6) (v := undef) rfl (by kernel_rfl) (by kernel_rfl) (by kernel_rfl) (fun _ _ _ h => h) (Or.inr ⟨by rfl, rfl⟩) hS0 ?_
        change wpAnyH _ _ _ _ _ _ _ (Act.put _ (some 20) (undef)) _
        simp only [Act.put, List.setIfInBounds_toArray, List.set_cons_zero, List.set_cons_succ]
        refine wpAnyH_take (i := 7) (v := undef) rfl (by kernel_rfl) (by kernel_rfl) (by kernel_rfl) (fun _ _ _ h => h) (Or.inr ⟨by rfl, rfl⟩) hS0 ?_
        change wpAnyH _ _ _ _ _ _ _ (Act.put _ (some 21) (undef)) _
        simp only [Act.put, List.setIfInBounds_toArray, List.set_cons_zero, List.set_cons_succ]
        refine wpAnyH_take (i := 8) (v := undef) rfl (by kernel_rfl) (by kernel_rfl) (by kernel_rfl) (fun _ _ _ h => h) (Or.inr ⟨by rfl, rfl⟩) hS0 ?_
        change wpAnyH _ _ _ _ _ _ _ (Act.put _ (some 22) (undef)) _
        simp only [Act.put, List.setIfInBounds_toArray, List.set_cons_zero, List.set_cons_succ]
        refine wpAnyH_take (i := 9) (v := undef) rfl (by kernel_rfl) (by kernel_rfl) (by kernel_rfl) (fun _ _ _ h => h) (Or.inr ⟨by rfl, rfl⟩) hS0 ?_
        change wpAnyH _ _ _ _ _ _ _ (Act.put _ (some 23) (undef)) _
        simp only [Act.put, List.setIfInBounds_toArray, List.set_cons_zero, List.set_cons_succ]
        refine wpAnyH_take (i := 10) (v := undef) rfl (by kernel_rfl) (by kernel_rfl) (by kernel_rfl) (fun _ _ _ h => h) (Or.inr ⟨by rfl, rfl⟩) hS0 ?_
        change wpAnyH _ _ _ _ _ _ _ (Act.put _ (some 24) (undef)) _
        simp only [Act.put, List.setIfInBounds_toArray, List.set_cons_zero, List.set_cons_succ]
        refine wpAnyH_take (i := 11) (v := undef) rfl (by kernel_rfl) (by kernel_rfl) (by kernel_rfl) (fun _ _ _ h => h) (Or.inr ⟨by rfl, rfl⟩) hS0 ?_
        change wpAnyH _ _ _ _ _ _ _ (Act.put _ (some 25) (undef)) _
        simp only [Act.put, List.setIfInBounds_toArray, List.set_cons_zero, List.set_cons_succ]
        refine wpAnyH_take (i := 12) (v := undef) rfl (by kernel_rfl) (by kernel_rfl) (by kernel_rfl) (fun _ _ _ h => h) (Or.inr ⟨by rfl, rfl⟩) hS0 ?_
        change wpAnyH _ _ _ _ _ _ _ (Act.put _ (some 26) (undef)) _
        simp only [Act.put, List.setIfInBounds_toArray, List.set_cons_zero, List.set_cons_succ]
        refine wpAnyH_take (i := 13) (v := undef) rfl (by kernel_rfl) (by kernel_rfl) (by kernel_rfl) (fun _ _ _ h => h) (Or.inr ⟨by rfl, rfl⟩) hS0 ?_
        change wpAnyH _ _ _ _ _ _ _ (Act.put _ (some 27) (undef)) _
        simp only [Act.put, List.setIfInBounds_toArray, List.set_cons_zero, List.set_cons_succ]
        refine wpAnyH_take (i := 14) (v := undef) rfl (by kernel_rfl) (by kernel_rfl) (by kernel_rfl) (fun _ _ _ h => h) (Or.inr ⟨by rfl, rfl⟩) hS0 ?_
        change wpAnyH _ _ _ _ _ _ _ (Act.put _ (some 28) (undef)) _
        simp only [Act.put, List.setIfInBounds_toArray, List.set_cons_zero, List.set_cons_succ]
        refine wpAnyH_take (i := 15) (v := undef) rfl (by kernel_rfl) (by kernel_rfl) (by kernel_rfl) (fun _ _ _ h => h) (Or.inr ⟨by rfl, rfl⟩) hS0 ?_
        change wpAnyH _ _ _ _ _ _ _ (Act.put _ (some 29) (undef)) _
        simp only [Act.put, List.setIfInBounds_toArray, List.set_cons_zero, List.set_cons_succ]
        refine wpAnyH_take (i := 16) (v := .bool false) rfl (by kernel_rfl) (by kernel_rfl) (by kernel_rfl) (fun _ _ _ h => h) (Or.inl ⟨by rfl, fun w' hS' => by go_simp⟩) hS0 ?_
        change wpAnyH _ _ _ _ _ _ _ (Act.put _ (some 30) (.bool false)) _
        simp only [Act.put, List.setIfInBounds_toArray, List.set_cons_zero, List.set_cons_succ]
        refine wpAnyH_done (by kernel_rfl) ?_ _
        refine NoPanic.normal ?_
        go_simp
        go_wp2_with fail
        obtain ⟨wv, hwv⟩ : ∃ wv, wv = wr.drew := ⟨_, rfl⟩
        have hSv : Below wr.heap.size wr wv := by rw [hwv]; exact hS0
        rw [← hwv]
        have HOT := Lib.hid (HOT0.out.up hSv)
        have HOB := Lib.hid (HOB0.out.trans (hSv.mono HOB0.out.size))
        have HLA : Hid (∀ W, Below wv.heap.size wv W → W.cell? (la.add (k * 3)) = some (.string lf) ∧ W.cell? ⟨(la.add (k * 3)).block, (la.add (k * 3)).off + 1, none⟩ = some (.string lt) ∧ W.cell? ⟨(la.add (k * 3)).block, (la.add (k * 3)).off + 2, none⟩ = some (.int .i64 ls)) := Lib.hid fun W hB => HLA0.out W (hSv.trans (hB.mono hSv.size))
        clear hSv hwv HOT0 HOB0 HLA0
        have hqc : q ≤ co := Nat.le_trans hq hcap
        by_cases hcq : co = q
        · have HQE := Lib.hid hcq
          have hcq2 := hcq.symm
          subst hcq2
          refine wp_region_noPanic ?_
          refine wp_region_held_drew (S := fun W => Below wv.heap.size wv W) (by kernel_rfl) ((Below.refl wv.heap.size wv).drew) (fun hS0 => ?_)
          change wpAnyH _ _ _ _ _ 15 #[false, false, false, false, false, false, false, false, false, false, false, false, false, false, false] _ (World.drew _)
          refine wpAnyH_take (i := 0) (v := .slice oA O.length q) rfl (by kernel_rfl) (by kernel_rfl) (by kernel_rfl) (fun _ _ _ h => h) (Or.inl ⟨by rfl, fun w' hS' => by exact op_move rfl rfl⟩) hS0 ?_
          change wpAnyH _ _ _ _ _ _ _ (Act.put _ (some 33) (.slice oA O.length q)) _
          simp only [Act.put, List.setIfInBounds_toArray, List.set_cons_zero, List.set_cons_succ]
          refine wpAnyH_take (i := 1) (v := .int .i64 (q : Int)) rfl (by kernel_rfl) (by kernel_rfl) (by kernel_rfl) (fun _ _ _ h => h) (Or.inl ⟨by rfl, fun w' hS' => by exact op_move rfl rfl⟩) hS0 ?_
          change wpAnyH _ _ _ _ _ _ _ (Act.put _ (some 34) (.int .i64 (q : Int))) _
          simp only [Act.put, List.setIfInBounds_toArray, List.set_cons_zero, List.set_cons_succ]
          refine wpAnyH_take (i := 2) (v := .slice oA q q) rfl (by kernel_rfl) (by kernel_rfl) (by kernel_rfl) (fun _ _ _ h => h) (Or.inl ⟨by rfl, fun w' hS' => by go_simp⟩) hS0 ?_
          change wpAnyH _ _ _ _ _ _ _ (Act.put _ (some 35) (.slice oA q q)) _
          simp only [Act.put, List.setIfInBounds_toArray, List.set_cons_zero, List.set_cons_succ]
          refine wpAnyH_take (i := 4) (v := .slice (some la) l.length c) rfl (by kernel_rfl) (by kernel_rfl) (by kernel_rfl) (fun _ _ _ h => h) (Or.inl ⟨by rfl, fun w' hS' => by exact op_move rfl rfl⟩) hS0 ?_
          change wpAnyH _ _ _ _ _ _ _ (Act.put _ (some 37) (.slice (some la) l.length c)) _
          simp only [Act.put, List.setIfInBounds_toArray, List.set_cons_zero, List.set_cons_succ]
          refine wpAnyH_take (i := 5) (v := .int .i64 (k : Int)) rfl (by kernel_rfl) (by kernel_rfl) (by kernel_rfl) (fun _ _ _ h => h) (Or.inl ⟨by rfl, fun w' hS' => by exact op_move rfl rfl⟩) hS0 ?_
          change wpAnyH _ _ _ _ _ _ _ (Act.put _ (some 38) (.int .i64 (k : Int))) _
          simp only [Act.put, List.setIfInBounds_toArray, List.set_cons_zero, List.set_cons_succ]
          refine wpAnyH_take (i := 6) (v := .pointer (some (la.add (k * 3)))) rfl (by kernel_rfl) (by kernel_rfl) (by kernel_rfl) (fun _ _ _ h => h) (Or.inl ⟨by rfl, fun w' hS' => by go_simp⟩) hS0 ?_
          change wpAnyH _ _ _ _ _ _ _ (Act.put _ (some 39) (.pointer (some (la.add (k * 3))))) _
          simp only [Act.put, List.setIfInBounds_toArray, List.set_cons_zero, List.set_cons_succ]
          refine wpAnyH_take (i := 7) (v := .agg #[.string lf, .string lt, .int .i64 ls]) rfl (by kernel_rfl) (by kernel_rfl) (by kernel_rfl) (fun _ _ _ h => h) (Or.inl ⟨by rfl, fun w' hS' => by obtain ⟨h0, h1, h2⟩ := HLA.out _ hS'; go_simp⟩) hS0 ?_
          change wpAnyH _ _ _ _ _ _ _ (Act.put _ (some 40) (.agg #[.string lf, .string lt, .int .i64 ls])) _
          simp only [Act.put, List.setIfInBounds_toArray, List.set_cons_zero, List.set_cons_succ]
          refine wpAnyH_take (i := 10) (v := .slice oA O.length q) rfl (by kernel_rfl) (by kernel_rfl) (by kernel_rfl) (fun _ _ _ h => h) (Or.inl ⟨by rfl, fun w' hS' => by exact op_move rfl rfl⟩) hS0 ?_
          change wpAnyH _ _ _ _ _ _ _ (Act.put _ (some 43) (.slice oA O.length q)) _
          simp only [Act.put, List.setIfInBounds_toArray, List.set_cons_zero, List.set_cons_succ]
          refine wpAnyH_take (i := 11) (v := .int .i64 (q : Int)) rfl (by kernel_rfl) (by kernel_rfl) (by kernel_rfl) (fun _ _ _ h => h) (Or.inl ⟨by rfl, fun w' hS' => by exact op_move rfl rfl⟩) hS0 ?_
          change wpAnyH _ _ _ _ _ _ _ (Act.put _ (some 44) (.int .i64 (q : Int))) _
          simp only [Act.put, List.setIfInBounds_toArray, List.set_cons_zero, List.set_cons_succ]
          refine wpAnyH_take (i := 12) (v := .slice oA 0 0) rfl (by kernel_rfl) (by kernel_rfl) (by kernel_rfl) (fun _ _ _ h => h) (Or.inl ⟨by rfl, fun w' hS' => by go_simp⟩) hS0 ?_
          change wpAnyH _ _ _ _ _ _ _ (Act.put _ (some 45) (.slice oA 0 0)) _
          simp only [Act.put, List.setIfInBounds_toArray, List.set_cons_zero, List.set_cons_succ]
          refine wpAnyH_ready (rs := [3, 8]) (by kernel_rfl) (by simp) (AllReadyH.cons rfl (fun K hK => ?_) (AllReadyH.cons rfl (fun K hK => ?_) (AllReadyH.nil)))
          · skip
            obtain ⟨A5, c5, W5, hr5, ho5, _⟩ := append_prs (Prs.nil wv.drew) q q ((HOT.out.up hS0).take q) (by rw [List.length_take]; omega) (O.take q) rfl (by rw [List.length_take]; omega)
            refine step_append_run2 hr5 rfl rfl rfl rfl rfl ?_
            refine hK.out _ _ (hS0.trans (ho5.2.mono hS0.size)) (fun hS5 => ?_)
            clear hK K
            change wpAnyH _ _ _ _ _ _ _ (Act.put _ (some 36) (.slice A5 (O.take q).length c5)) _
            simp only [Act.put, List.setIfInBounds_toArray, List.set_cons_zero, List.set_cons_succ]
            refine wpAnyH_ready (rs := [8]) (by kernel_rfl) (by simp) (AllReadyH.cons rfl (fun K hK => ?_) (AllReadyH.nil))
            · skip
              obtain ⟨gb, Wb, hrb, hbb5, hBb, hgb⟩ := op_slice29 ⟨lf, lt, ls⟩ W5
              refine step_op_run (hrb _ _ _ rfl rfl) rfl ?_
              refine hK.out _ _ (hS5.trans (hBb.mono hS5.size)) (fun hSb => ?_)
              have ho5b := ho5.up hBb
              clear hK K
              change wpAnyH _ _ _ _ _ _ _ (Act.put _ (some 41) (.slice (some ⟨gb, 0, none⟩) 1 1)) _
              simp only [Act.put, List.setIfInBounds_toArray, List.set_cons_zero, List.set_cons_succ]
              refine wpAnyH_ready (rs := [9]) (by kernel_rfl) (by simp) (AllReadyH.cons rfl (fun K hK => ?_) (AllReadyH.nil))
              · skip
                obtain ⟨A6, c6, W6, hr6, ho6, _⟩ := append_prs ho5b 1 1 (one_pr hbb5) rfl (O.take q ++ [⟨lf, lt, ls⟩]) rfl (by rw [List.length_append, List.length_take, List.length_singleton]; omega)
                refine step_append_run2 hr6 rfl rfl rfl rfl rfl ?_
                have hS6' : Below wv.heap.size wv W6 := Below.trans (Below.refl wv.heap.size wv).drew (ho6.2.mono (Below.size (Below.refl wv.heap.size wv).drew))
                refine hK.out _ _ hS6' (fun hS6 => ?_)
                clear hK K
                change wpAnyH _ _ _ _ _ _ _ (Act.put _ (some 42) (.slice A6 (O.take q ++ [(⟨lf, lt, ls⟩ : Pr)]).length c6)) _
                simp only [Act.put, List.setIfInBounds_toArray, List.set_cons_zero, List.set_cons_succ]
                refine wpAnyH_ready (rs := [13]) (by kernel_rfl) (by simp) (AllReadyH.cons rfl (fun K hK => ?_) (AllReadyH.nil))
                · skip
                  obtain ⟨A7, c7, W7, hr7, ho7, _⟩ := append_prs ho6 0 0 (drop_here HQE.out HQ.out HCAP.out (HOT.out.up hS6)) (by rw [List.length_drop]; omega) N HNE.out HNL.out
                  refine step_append_run2 hr7 rfl rfl rfl rfl rfl ?_
                  have hS7' : Below wv.heap.size wv W7 := Below.trans (Below.refl wv.heap.size wv).drew (ho7.2.mono (Below.size (Below.refl wv.heap.size wv).drew))
                  refine hK.out _ _ hS7' (fun hS7 => ?_)
                  clear hK K
                  change wpAnyH _ _ _ _ _ _ _ (Act.put _ (some 46) (.slice A7 N.length c7)) _
                  simp only [Act.put, List.setIfInBounds_toArray, List.set_cons_zero, List.set_cons_succ]
                  refine wpAnyH_take (i := 14) (v := .slice A7 N.length c7) rfl (by kernel_rfl) (by kernel_rfl) (by kernel_rfl) (fun _ _ _ h => h) (Or.inl ⟨by rfl, fun w' hS' => by exact op_assign rfl rfl⟩) hS7 ?_
                  change wpAnyH _ _ _ _ _ _ _ (Act.put _ (some 3) (.slice A7 N.length c7)) _
                  simp only [Act.put, List.setIfInBounds_toArray, List.set_cons_zero, List.set_cons_succ]
                  refine wpAnyH_done (by kernel_rfl) ?_ _
                  refine NoPanic.normal ?_
                  go_simp
                  go_wp2_with fail
                  go_roundw
                  case rel => exact ⟨k + 1, N, by omega, by go_num, prs_base (prs_base ho7 (Below.refl wv.heap.size wv).drew) HOB.out, HNP.out, HNS.out⟩
                  case measure => simp [intOf]; omega
          · skip
            obtain ⟨gb, Wb, hrb, hbb, hBb, hgb⟩ := op_slice29 ⟨lf, lt, ls⟩ wv.drew
            refine step_op_run (hrb _ _ _ rfl rfl) rfl ?_
            refine hK.out _ _ (hS0.trans (hBb.mono hS0.size)) (fun hSb => ?_)
            clear hK K
            change wpAnyH _ _ _ _ _ _ _ (Act.put _ (some 41) (.slice (some ⟨gb, 0, none⟩) 1 1)) _
            simp only [Act.put, List.setIfInBounds_toArray, List.set_cons_zero, List.set_cons_succ]
            refine wpAnyH_ready (rs := [3]) (by kernel_rfl) (by simp) (AllReadyH.cons rfl (fun K hK => ?_) (AllReadyH.nil))
            · skip
              obtain ⟨A5, c5, W5, hr5, ho5, _⟩ := append_prs (Prs.nil Wb) q q ((HOT.out.up hSb).take q) (by rw [List.length_take]; omega) (O.take q) rfl (by rw [List.length_take]; omega)
              refine step_append_run2 hr5 rfl rfl rfl rfl rfl ?_
              refine hK.out _ _ (hSb.trans (ho5.2.mono hSb.size)) (fun hS5 => ?_)
              have hbb5 := hbb.below ho5.2 hbb.lt
              clear hK K
              change wpAnyH _ _ _ _ _ _ _ (Act.put _ (some 36) (.slice A5 (O.take q).length c5)) _
              simp only [Act.put, List.setIfInBounds_toArray, List.set_cons_zero, List.set_cons_succ]
              refine wpAnyH_ready (rs := [9]) (by kernel_rfl) (by simp) (AllReadyH.cons rfl (fun K hK => ?_) (AllReadyH.nil))
              · skip
                obtain ⟨A6, c6, W6, hr6, ho6, _⟩ := append_prs ho5 1 1 (one_pr hbb5) rfl (O.take q ++ [⟨lf, lt, ls⟩]) rfl (by rw [List.length_append, List.length_take, List.length_singleton]; omega)
                refine step_append_run2 hr6 rfl rfl rfl rfl rfl ?_
                have hS6' : Below wv.heap.size wv W6 := Below.trans hSb (ho6.2.mono (Below.size hSb))
                refine hK.out _ _ hS6' (fun hS6 => ?_)
                clear hK K
                change wpAnyH _ _ _ _ _ _ _ (Act.put _ (some 42) (.slice A6 (O.take q ++ [(⟨lf, lt, ls⟩ : Pr)]).length c6)) _
                simp only [Act.put, List.setIfInBounds_toArray, List.set_cons_zero, List.set_cons_succ]
                refine wpAnyH_ready (rs := [13]) (by kernel_rfl) (by simp) (AllReadyH.cons rfl (fun K hK => ?_) (AllReadyH.nil))
                · skip
                  obtain ⟨A7, c7, W7, hr7, ho7, _⟩ := append_prs ho6 0 0 (drop_here HQE.out HQ.out HCAP.out (HOT.out.up hS6)) (by rw [List.length_drop]; omega) N HNE.out HNL.out
                  refine step_append_run2 hr7 rfl rfl rfl rfl rfl ?_
                  have hS7' : Below wv.heap.size wv W7 := Below.trans hSb (ho7.2.mono (Below.size hSb))
                  refine hK.out _ _ hS7' (fun hS7 => ?_)
                  clear hK K
                  change wpAnyH _ _ _ _ _ _ _ (Act.put _ (some 46) (.slice A7 N.length c7)) _
                  simp only [Act.put, List.setIfInBounds_toArray, List.set_cons_zero, List.set_cons_succ]
                  refine wpAnyH_take (i := 14) (v := .slice A7 N.length c7) rfl (by kernel_rfl) (by kernel_rfl) (by kernel_rfl) (fun _ _ _ h => h) (Or.inl ⟨by rfl, fun w' hS' => by exact op_assign rfl rfl⟩) hS7 ?_
                  change wpAnyH _ _ _ _ _ _ _ (Act.put _ (some 3) (.slice A7 N.length c7)) _
                  simp only [Act.put, List.setIfInBounds_toArray, List.set_cons_zero, List.set_cons_succ]
                  refine wpAnyH_done (by kernel_rfl) ?_ _
                  refine NoPanic.normal ?_
                  go_simp
                  go_wp2_with fail
                  go_roundw
                  case rel => exact ⟨k + 1, N, by omega, by go_num, prs_base (prs_base ho7 hSb) HOB.out, HNP.out, HNS.out⟩
                  case measure => simp [intOf]; omega
        · have HQN := Lib.hid hcq
          refine wp_region_noPanic ?_
          refine wp_region_held_drew (S := fun W => Below wv.heap.size wv W) (by kernel_rfl) ((Below.refl wv.heap.size wv).drew) (fun hS0 => ?_)
          change wpAnyH _ _ _ _ _ 15 #[false, false, false, false, false, false, false, false, false, false, false, false, false, false, false] _ (World.drew _)
          refine wpAnyH_take (i := 0) (v := .slice oA O.length co) rfl (by kernel_rfl) (by kernel_rfl) (by kernel_rfl) (fun _ _ _ h => h) (Or.inl ⟨by rfl, fun w' hS' => by exact op_move rfl rfl⟩) hS0 ?_
          change wpAnyH _ _ _ _ _ _ _ (Act.put _ (some 33) (.slice oA O.length co)) _
          simp only [Act.put, List.setIfInBounds_toArray, List.set_cons_zero, List.set_cons_succ]
          refine wpAnyH_take (i := 1) (v := .int .i64 (q : Int)) rfl (by kernel_rfl) (by kernel_rfl) (by kernel_rfl) (fun _ _ _ h => h) (Or.inl ⟨by rfl, fun w' hS' => by exact op_move rfl rfl⟩) hS0 ?_
          change wpAnyH _ _ _ _ _ _ _ (Act.put _ (some 34) (.int .i64 (q : Int))) _
          simp only [Act.put, List.setIfInBounds_toArray, List.set_cons_zero, List.set_cons_succ]
          refine wpAnyH_take (i := 2) (v := .slice oA q co) rfl (by kernel_rfl) (by kernel_rfl) (by kernel_rfl) (fun _ _ _ h => h) (Or.inl ⟨by rfl, fun w' hS' => by go_simp⟩) hS0 ?_
          change wpAnyH _ _ _ _ _ _ _ (Act.put _ (some 35) (.slice oA q co)) _
          simp only [Act.put, List.setIfInBounds_toArray, List.set_cons_zero, List.set_cons_succ]
          refine wpAnyH_take (i := 4) (v := .slice (some la) l.length c) rfl (by kernel_rfl) (by kernel_rfl) (by kernel_rfl) (fun _ _ _ h => h) (Or.inl ⟨by rfl, fun w' hS' => by exact op_move rfl rfl⟩) hS0 ?_
          change wpAnyH _ _ _ _ _ _ _ (Act.put _ (some 37) (.slice (some la) l.length c)) _
          simp only [Act.put, List.setIfInBounds_toArray, List.set_cons_zero, List.set_cons_succ]
          refine wpAnyH_take (i := 5) (v := .int .i64 (k : Int)) rfl (by kernel_rfl) (by kernel_rfl) (by kernel_rfl) (fun _ _ _ h => h) (Or.inl ⟨by rfl, fun w' hS' => by exact op_move rfl rfl⟩) hS0 ?_
          change wpAnyH _ _ _ _ _ _ _ (Act.put _ (some 38) (.int .i64 (k : Int))) _
          simp only [Act.put, List.setIfInBounds_toArray, List.set_cons_zero, List.set_cons_succ]
          refine wpAnyH_take (i := 6) (v := .pointer (some (la.add (k * 3)))) rfl (by kernel_rfl) (by kernel_rfl) (by kernel_rfl) (fun _ _ _ h => h) (Or.inl ⟨by rfl, fun w' hS' => by go_simp⟩) hS0 ?_
          change wpAnyH _ _ _ _ _ _ _ (Act.put _ (some 39) (.pointer (some (la.add (k * 3))))) _
          simp only [Act.put, List.setIfInBounds_toArray, List.set_cons_zero, List.set_cons_succ]
          refine wpAnyH_take (i := 7) (v := .agg #[.string lf, .string lt, .int .i64 ls]) rfl (by kernel_rfl) (by kernel_rfl) (by kernel_rfl) (fun _ _ _ h => h) (Or.inl ⟨by rfl, fun w' hS' => by obtain ⟨h0, h1, h2⟩ := HLA.out _ hS'; go_simp⟩) hS0 ?_
          change wpAnyH _ _ _ _ _ _ _ (Act.put _ (some 40) (.agg #[.string lf, .string lt, .int .i64 ls])) _
          simp only [Act.put, List.setIfInBounds_toArray, List.set_cons_zero, List.set_cons_succ]
          refine wpAnyH_take (i := 10) (v := .slice oA O.length co) rfl (by kernel_rfl) (by kernel_rfl) (by kernel_rfl) (fun _ _ _ h => h) (Or.inl ⟨by rfl, fun w' hS' => by exact op_move rfl rfl⟩) hS0 ?_
          change wpAnyH _ _ _ _ _ _ _ (Act.put _ (some 43) (.slice oA O.length co)) _
          simp only [Act.put, List.setIfInBounds_toArray, List.set_cons_zero, List.set_cons_succ]
          refine wpAnyH_take (i := 11) (v := .int .i64 (q : Int)) rfl (by kernel_rfl) (by kernel_rfl) (by kernel_rfl) (fun _ _ _ h => h) (Or.inl ⟨by rfl, fun w' hS' => by exact op_move rfl rfl⟩) hS0 ?_
          change wpAnyH _ _ _ _ _ _ _ (Act.put _ (some 44) (.int .i64 (q : Int))) _
          simp only [Act.put, List.setIfInBounds_toArray, List.set_cons_zero, List.set_cons_succ]
          refine wpAnyH_take (i := 12) (v := .slice (oA.map (·.add (q * 3))) (O.length - q) (co - q)) rfl (by kernel_rfl) (by kernel_rfl) (by kernel_rfl) (fun _ _ _ h => h) (Or.inl ⟨by rfl, fun w' hS' => by go_simp⟩) hS0 ?_
          change wpAnyH _ _ _ _ _ _ _ (Act.put _ (some 45) (.slice (oA.map (·.add (q * 3))) (O.length - q) (co - q))) _
          simp only [Act.put, List.setIfInBounds_toArray, List.set_cons_zero, List.set_cons_succ]
          refine wpAnyH_ready (rs := [3, 8]) (by kernel_rfl) (by simp) (AllReadyH.cons rfl (fun K hK => ?_) (AllReadyH.cons rfl (fun K hK => ?_) (AllReadyH.nil)))
          · skip
            obtain ⟨A5, c5, W5, hr5, ho5, _⟩ := append_prs (Prs.nil wv.drew) q co ((HOT.out.up hS0).take q) (by rw [List.length_take]; omega) (O.take q) rfl (by rw [List.length_take]; omega)
            refine step_append_run2 hr5 rfl rfl rfl rfl rfl ?_
            refine hK.out _ _ (hS0.trans (ho5.2.mono hS0.size)) (fun hS5 => ?_)
            clear hK K
            change wpAnyH _ _ _ _ _ _ _ (Act.put _ (some 36) (.slice A5 (O.take q).length c5)) _
            simp only [Act.put, List.setIfInBounds_toArray, List.set_cons_zero, List.set_cons_succ]
            refine wpAnyH_ready (rs := [8]) (by kernel_rfl) (by simp) (AllReadyH.cons rfl (fun K hK => ?_) (AllReadyH.nil))
            · skip
              obtain ⟨gb, Wb, hrb, hbb5, hBb, hgb⟩ := op_slice29 ⟨lf, lt, ls⟩ W5
              refine step_op_run (hrb _ _ _ rfl rfl) rfl ?_
              refine hK.out _ _ (hS5.trans (hBb.mono hS5.size)) (fun hSb => ?_)
              have ho5b := ho5.up hBb
              clear hK K
              change wpAnyH _ _ _ _ _ _ _ (Act.put _ (some 41) (.slice (some ⟨gb, 0, none⟩) 1 1)) _
              simp only [Act.put, List.setIfInBounds_toArray, List.set_cons_zero, List.set_cons_succ]
              refine wpAnyH_ready (rs := [9]) (by kernel_rfl) (by simp) (AllReadyH.cons rfl (fun K hK => ?_) (AllReadyH.nil))
              · skip
                obtain ⟨A6, c6, W6, hr6, ho6, _⟩ := append_prs ho5b 1 1 (one_pr hbb5) rfl (O.take q ++ [⟨lf, lt, ls⟩]) rfl (by rw [List.length_append, List.length_take, List.length_singleton]; omega)
                refine step_append_run2 hr6 rfl rfl rfl rfl rfl ?_
                have hS6' : Below wv.heap.size wv W6 := Below.trans (Below.refl wv.heap.size wv).drew (ho6.2.mono (Below.size (Below.refl wv.heap.size wv).drew))
                refine hK.out _ _ hS6' (fun hS6 => ?_)
                clear hK K
                change wpAnyH _ _ _ _ _ _ _ (Act.put _ (some 42) (.slice A6 (O.take q ++ [(⟨lf, lt, ls⟩ : Pr)]).length c6)) _
                simp only [Act.put, List.setIfInBounds_toArray, List.set_cons_zero, List.set_cons_succ]
                refine wpAnyH_ready (rs := [13]) (by kernel_rfl) (by simp) (AllReadyH.cons rfl (fun K hK => ?_) (AllReadyH.nil))
                · skip
                  obtain ⟨A7, c7, W7, hr7, ho7, _⟩ := append_prs ho6 (O.length - q) (co - q) (drop_there HQN.out HQ.out HCAP.out (HOT.out.up hS6)) (by rw [List.length_drop]) N HNE.out HNL.out
                  refine step_append_run2 hr7 rfl rfl rfl rfl rfl ?_
                  have hS7' : Below wv.heap.size wv W7 := Below.trans (Below.refl wv.heap.size wv).drew (ho7.2.mono (Below.size (Below.refl wv.heap.size wv).drew))
                  refine hK.out _ _ hS7' (fun hS7 => ?_)
                  clear hK K
                  change wpAnyH _ _ _ _ _ _ _ (Act.put _ (some 46) (.slice A7 N.length c7)) _
                  simp only [Act.put, List.setIfInBounds_toArray, List.set_cons_zero, List.set_cons_succ]
                  refine wpAnyH_take (i := 14) (v := .slice A7 N.length c7) rfl (by kernel_rfl) (by kernel_rfl) (by kernel_rfl) (fun _ _ _ h => h) (Or.inl ⟨by rfl, fun w' hS' => by exact op_assign rfl rfl⟩) hS7 ?_
                  change wpAnyH _ _ _ _ _ _ _ (Act.put _ (some 3) (.slice A7 N.length c7)) _
                  simp only [Act.put, List.setIfInBounds_toArray, List.set_cons_zero, List.set_cons_succ]
                  refine wpAnyH_done (by kernel_rfl) ?_ _
                  refine NoPanic.normal ?_
                  go_simp
                  go_wp2_with fail
                  go_roundw
                  case rel => exact ⟨k + 1, N, by omega, by go_num, prs_base (prs_base ho7 (Below.refl wv.heap.size wv).drew) HOB.out, HNP.out, HNS.out⟩
                  case measure => simp [intOf]; omega
          · skip
            obtain ⟨gb, Wb, hrb, hbb, hBb, hgb⟩ := op_slice29 ⟨lf, lt, ls⟩ wv.drew
            refine step_op_run (hrb _ _ _ rfl rfl) rfl ?_
            refine hK.out _ _ (hS0.trans (hBb.mono hS0.size)) (fun hSb => ?_)
            clear hK K
            change wpAnyH _ _ _ _ _ _ _ (Act.put _ (some 41) (.slice (some ⟨gb, 0, none⟩) 1 1)) _
            simp only [Act.put, List.setIfInBounds_toArray, List.set_cons_zero, List.set_cons_succ]
            refine wpAnyH_ready (rs := [3]) (by kernel_rfl) (by simp) (AllReadyH.cons rfl (fun K hK => ?_) (AllReadyH.nil))
            · skip
              obtain ⟨A5, c5, W5, hr5, ho5, _⟩ := append_prs (Prs.nil Wb) q co ((HOT.out.up hSb).take q) (by rw [List.length_take]; omega) (O.take q) rfl (by rw [List.length_take]; omega)
              refine step_append_run2 hr5 rfl rfl rfl rfl rfl ?_
              refine hK.out _ _ (hSb.trans (ho5.2.mono hSb.size)) (fun hS5 => ?_)
              have hbb5 := hbb.below ho5.2 hbb.lt
              clear hK K
              change wpAnyH _ _ _ _ _ _ _ (Act.put _ (some 36) (.slice A5 (O.take q).length c5)) _
              simp only [Act.put, List.setIfInBounds_toArray, List.set_cons_zero, List.set_cons_succ]
              refine wpAnyH_ready (rs := [9]) (by kernel_rfl) (by simp) (AllReadyH.cons rfl (fun K hK => ?_) (AllReadyH.nil))
              · skip
                obtain ⟨A6, c6, W6, hr6, ho6, _⟩ := append_prs ho5 1 1 (one_pr hbb5) rfl (O.take q ++ [⟨lf, lt, ls⟩]) rfl (by rw [List.length_append, List.length_take, List.length_singleton]; omega)
                refine step_append_run2 hr6 rfl rfl rfl rfl rfl ?_
                have hS6' : Below wv.heap.size wv W6 := Below.trans hSb (ho6.2.mono (Below.size hSb))
                refine hK.out _ _ hS6' (fun hS6 => ?_)
                clear hK K
                change wpAnyH _ _ _ _ _ _ _ (Act.put _ (some 42) (.slice A6 (O.take q ++ [(⟨lf, lt, ls⟩ : Pr)]).length c6)) _
                simp only [Act.put, List.setIfInBounds_toArray, List.set_cons_zero, List.set_cons_succ]
                refine wpAnyH_ready (rs := [13]) (by kernel_rfl) (by simp) (AllReadyH.cons rfl (fun K hK => ?_) (AllReadyH.nil))
                · skip
                  obtain ⟨A7, c7, W7, hr7, ho7, _⟩ := append_prs ho6 (O.length - q) (co - q) (drop_there HQN.out HQ.out HCAP.out (HOT.out.up hS6)) (by rw [List.length_drop]) N HNE.out HNL.out
                  refine step_append_run2 hr7 rfl rfl rfl rfl rfl ?_
                  have hS7' : Below wv.heap.size wv W7 := Below.trans hSb (ho7.2.mono (Below.size hSb))
                  refine hK.out _ _ hS7' (fun hS7 => ?_)
                  clear hK K
                  change wpAnyH _ _ _ _ _ _ _ (Act.put _ (some 46) (.slice A7 N.length c7)) _
                  simp only [Act.put, List.setIfInBounds_toArray, List.set_cons_zero, List.set_cons_succ]
                  refine wpAnyH_take (i := 14) (v := .slice A7 N.length c7) rfl (by kernel_rfl) (by kernel_rfl) (by kernel_rfl) (fun _ _ _ h => h) (Or.inl ⟨by rfl, fun w' hS' => by exact op_assign rfl rfl⟩) hS7 ?_
                  change wpAnyH _ _ _ _ _ _ _ (Act.put _ (some 3) (.slice A7 N.length c7)) _
                  simp only [Act.put, List.setIfInBounds_toArray, List.set_cons_zero, List.set_cons_succ]
                  refine wpAnyH_done (by kernel_rfl) ?_ _
                  refine NoPanic.normal ?_
                  go_simp
                  go_wp2_with fail
                  go_roundw
                  case rel => exact ⟨k + 1, N, by omega, by go_num, prs_base (prs_base ho7 hSb) HOB.out, HNP.out, HNS.out⟩
                  case measure => simp [intOf]; omega
      obtain ⟨r, hr⟩ : ∃ r, q = r + 1 := ⟨q - 1, by omega⟩
      have HR := Lib.hid hr
      have hrl : r < O.length := by omega
      have hrq : r < q := by omega
      obtain ⟨⟨of, ot, os⟩, hot⟩ : ∃ b, O[r]? = some b := ⟨_, List.getElem?_eq_getElem hrl⟩
      have HIO := Lib.hid hot
      have HOS : Hid (ot.size ≤ 1048576) := Lib.hid (HSZO.out _ (List.mem_of_getElem? hot))
      obtain ⟨oa, rfl, hoab, hoc⟩ := HOT0.out (by intro e; subst e; simp at hot)
      obtain ⟨x0, x1, x2⟩ := hoc r _ hot
      have HOC : Hid (∀ W, Below wr.heap.size wr W → W.cell? ⟨(oa.add (r * 3)).block, (oa.add (r * 3)).off + 1, none⟩ = some (.string ot)) := Lib.hid fun W hB => by
        have hlt : (oa.add (r * 3)).block < wr.heap.size := by rw [add_block]; exact hoab
        exact (hB.cell (p := ⟨_, _, none⟩) hlt).trans x1
      have e1 : IntKind.i64.wrap ((q : Int) - 1) = (r : Int) := by rw [IntWalk.i64_in _ (by omega)]; omega
      have f1 : decide ((0 : Int) < (q : Int)) = true := decide_eq_true (by omega)
      have f2 : decide (0 < q) = true := decide_eq_true (by omega)
      obtain ⟨cv, hcv⟩ : ∃ cv, pcmp (td lt) (td ot) = cv := ⟨_, rfl⟩
      have HCV := Lib.hid hcv
      clear hot hoab hoc x0 x1 x2 hr hq0 hcv
      by_cases hlt : cv < 0
      · have f3 : decide (cv < 0) = true := decide_eq_true hlt
        have HDN : Hid (∀ x ∈ O.drop r, plt lt x.tt) := Lib.hid (drop_more (p := ⟨lf, lt, ls⟩) HR.out HIO.out (by show pcmp (td lt) (td ot) < 0; rw [HCV.out]; exact hlt) HD.out)
        clear hlt
        go_wp2_with fail
        refine wp_region_noPanic ?_
        refine wp_region_held_drew (S := fun W => Below wr.heap.size wr W) (by kernel_rfl) ((Below.refl wr.heap.size wr).drew) (fun hS0 => ?_)
        change wpAnyH _ _ _ _ _ 17 #[false, false, false, false, false, false, false, false, false, false, false, false, false, false, false, false, false] _ (World.drew _)
        refine wpAnyH_take (i := 0) (v := .int .i64 (q : Int)) rfl (by kernel_rfl) (by kernel_rfl) (by kernel_rfl) (fun _ _ _ h => h) (Or.inl ⟨by rfl, fun w' hS' => by exact op_move rfl rfl⟩) hS0 ?_
        change wpAnyH _ _ _ _ _ _ _ (Act.put _ (some 14) (.int .i64 (q : Int))) _
        simp only [Act.put, List.setIfInBounds_toArray, List.set_cons_zero, List.set_cons_succ]
        refine wpAnyH_take (i := 1) (v := .bool true) rfl (by kernel_rfl) (by kernel_rfl) (by kernel_rfl) (fun _ _ _ h => h) (Or.inl ⟨by rfl, fun w' hS' => by go_simp⟩) hS0 ?_
        change wpAnyH _ _ _ _ _ _ _ (Act.put _ (some 15) (.bool true)) _
        simp only [Act.put, List.setIfInBounds_toArray, List.set_cons_zero, List.set_cons_succ]
        refine wpAnyH_take (i := 2) (v := .bool true) rfl (by kernel_rfl) (by kernel_rfl) (by kernel_rfl) (fun _ _ _ h => h) (Or.inl ⟨by rfl, fun w' hS' => by exact op_move rfl rfl⟩) hS0 ?_
        change wpAnyH _ _ _ _ _ _ _ (Act.put _ (some 16) (.bool true)) _
        simp only [Act.put, List.setIfInBounds_toArray, List.set_cons_zero, List.set_cons_succ]
        refine wpAnyH_take (i := 3) (v := .slice (some la) l.length c) rfl (by kernel_rfl) (by kernel_rfl) (by kernel_rfl) (fun _ _ _ h => h) (Or.inl ⟨by rfl, fun w' hS' => by exact op_move rfl rfl⟩) hS0 ?_
        change wpAnyH _ _ _ _ _ _ _ (Act.put _ (some 17) (.slice (some la) l.length c)) _
        simp only [Act.put, List.setIfInBounds_toArray, List.set_cons_zero, List.set_cons_succ]
        refine wpAnyH_take (i := 4) (v := .int .i64 (k : Int)) rfl (by kernel_rfl) (by kernel_rfl) (by kernel_rfl) (fun _ _ _ h => h) (Or.inl ⟨by rfl, fun w' hS' => by exact op_move rfl rfl⟩) hS0 ?_
        change wpAnyH _ _ _ _ _ _ _ (Act.put _ (some 18) (.int .i64 (k : Int))) _
        simp only [Act.put, List.setIfInBounds_toArray, List.set_cons_zero, List.set_cons_succ]
        refine wpAnyH_take (i := 5) (v := .pointer (some (la.add (k * 3)))) rfl (by kernel_rfl) (by kernel_rfl) (by kernel_rfl) (fun _ _ _ h => h) (Or.inl ⟨by rfl, fun w' hS' => by go_simp⟩) hS0 ?_
        change wpAnyH _ _ _ _ _ _ _ (Act.put _ (some 19) (.pointer (some (la.add (k * 3))))) _
        simp only [Act.put, List.setIfInBounds_toArray, List.set_cons_zero, List.set_cons_succ]
        refine wpAnyH_take (i := 6) (v := .pointer (some ⟨(la.add (k * 3)).block, (la.add (k * 3)).off + 1, none⟩)) rfl (by kernel_rfl) (by kernel_rfl) (by kernel_rfl) (fun _ _ _ h => h) (Or.inl ⟨by rfl, fun w' hS' => by go_simp⟩) hS0 ?_
        change wpAnyH _ _ _ _ _ _ _ (Act.put _ (some 20) (.pointer (some ⟨(la.add (k * 3)).block, (la.add (k * 3)).off + 1, none⟩))) _
        simp only [Act.put, List.setIfInBounds_toArray, List.set_cons_zero, List.set_cons_succ]
        refine wpAnyH_take (i := 7) (v := .string lt) rfl (by kernel_rfl) (by kernel_rfl) (by kernel_rfl) (fun _ _ _ h => h) (Or.inl ⟨by rfl, fun w' hS' => by have h0 := HLC.out _ hS'; go_simp⟩) hS0 ?_
        change wpAnyH _ _ _ _ _ _ _ (Act.put _ (some 21) (.string lt)) _
        simp only [Act.put, List.setIfInBounds_toArray, List.set_cons_zero, List.set_cons_succ]
        refine wpAnyH_take (i := 8) (v := .slice (some oa) O.length co) rfl (by kernel_rfl) (by kernel_rfl) (by kernel_rfl) (fun _ _ _ h => h) (Or.inl ⟨by rfl, fun w' hS' => by exact op_move rfl rfl⟩) hS0 ?_
        change wpAnyH _ _ _ _ _ _ _ (Act.put _ (some 22) (.slice (some oa) O.length co)) _
        simp only [Act.put, List.setIfInBounds_toArray, List.set_cons_zero, List.set_cons_succ]
        refine wpAnyH_take (i := 9) (v := .int .i64 (q : Int)) rfl (by kernel_rfl) (by kernel_rfl) (by kernel_rfl) (fun _ _ _ h => h) (Or.inl ⟨by rfl, fun w' hS' => by exact op_move rfl rfl⟩) hS0 ?_
        change wpAnyH _ _ _ _ _ _ _ (Act.put _ (some 23) (.int .i64 (q : Int))) _
        simp only [Act.put, List.setIfInBounds_toArray, List.set_cons_zero, List.set_cons_succ]
        refine wpAnyH_take (i := 10) (v := .int .i64 (r : Int)) rfl (by kernel_rfl) (by kernel_rfl) (by kernel_rfl) (fun _ _ _ h => h) (Or.inl ⟨by rfl, fun w' hS' => by go_simp⟩) hS0 ?_
        change wpAnyH _ _ _ _ _ _ _ (Act.put _ (some 24) (.int .i64 (r : Int))) _
        simp only [Act.put, List.setIfInBounds_toArray, List.set_cons_zero, List.set_cons_succ]
        refine wpAnyH_take (i := 11) (v := .pointer (some (oa.add (r * 3)))) rfl (by kernel_rfl) (by kernel_rfl) (by kernel_rfl) (fun _ _ _ h => h) (Or.inl ⟨by rfl, fun w' hS' => by go_simp⟩) hS0 ?_
        change wpAnyH _ _ _ _ _ _ _ (Act.put _ (some 25) (.pointer (some (oa.add (r * 3))))) _
        simp only [Act.put, List.setIfInBounds_toArray, List.set_cons_zero, List.set_cons_succ]
        refine wpAnyH_take (i := 12) (v := .pointer (some ⟨(oa.add (r * 3)).block, (oa.add (r * 3)).off + 1, none⟩)) rfl (by kernel_rfl) (by kernel_rfl) (by kernel_rfl) (fun _ _ _ h => h) (Or.inl ⟨by rfl, fun w' hS' => by go_simp⟩) hS0 ?_
        change wpAnyH _ _ _ _ _ _ _ (Act.put _ (some 26) (.pointer (some ⟨(oa.add (r * 3)).block, (oa.add (r * 3)).off + 1, none⟩))) _
        simp only [Act.put, List.setIfInBounds_toArray, List.set_cons_zero, List.set_cons_succ]
        refine wpAnyH_take (i := 13) (v := .string ot) rfl (by kernel_rfl) (by kernel_rfl) (by kernel_rfl) (fun _ _ _ h => h) (Or.inl ⟨by rfl, fun w' hS' => by have h0 := HOC.out _ hS'; go_simp⟩) hS0 ?_
        change wpAnyH _ _ _ _ _ _ _ (Act.put _ (some 27) (.string ot)) _
        simp only [Act.put, List.setIfInBounds_toArray, List.set_cons_zero, List.set_cons_succ]
        refine wpAnyH_ready (rs := [14]) (by kernel_rfl) (by simp) (AllReadyH.cons rfl (fun K hK => ?_) (AllReadyH.nil))
        · skip
          go_simp
          refine (compare_exact lt ot _ HLS.out HOS.out).mono ?_
          rintro e ws ⟨rfl, hb⟩
          rw [HCV.out]
          refine hK.out _ _ (hS0.trans (hb.mono hS0.size)) (fun hS1 => ?_)
          clear hK K
          simp only [List.setIfInBounds_toArray, List.set_cons_zero, List.set_cons_succ]
          refine wpAnyH_take (i := 15) (v := .bool true) rfl (by kernel_rfl) (by kernel_rfl) (by kernel_rfl) (fun _ _ _ h => h) (Or.inl ⟨by rfl, fun w' hS' => by go_simp⟩) hS1 ?_
          change wpAnyH _ _ _ _ _ _ _ (Act.put _ (some 29) (.bool true)) _
          simp only [Act.put, List.setIfInBounds_toArray, List.set_cons_zero, List.set_cons_succ]
          refine wpAnyH_take (i := 16) (v := .bool true) rfl (by kernel_rfl) (by kernel_rfl) (by kernel_rfl) (fun _ _ _ h => h) (Or.inl ⟨by rfl, fun w' hS' => by go_simp⟩) hS1 ?_
          change wpAnyH _ _ _ _ _ _ _ (Act.put _ (some 30) (.bool true)) _
          simp only [Act.put, List.setIfInBounds_toArray, List.set_cons_zero, List.set_cons_succ]
          refine wpAnyH_done (by kernel_rfl) ?_ _
          refine NoPanic.normal ?_
          go_simp
          go_wp2_with fail
          go_roundw
          case rel => exact ⟨r, by omega, by go_num, HO0.out.up hS1, HDN.out⟩
          case measure => simp [intOf]; omega
      · have f3 : decide (cv < 0) = false := decide_eq_false hlt
        have HNS : Hid (SortP N) := Lib.hid (by rw [HNE.out]; exact ins_sorted HSO.out HD.out (take_not (p := ⟨lf, lt, ls⟩) HSO.out HR.out HIO.out (by show ¬ pcmp (td lt) (td ot) < 0; rw [HCV.out]; exact hlt)))
        clear hlt
        go_wp2_with fail
        refine wp_region_noPanic ?_
        refine wp_region_held_drew (S := fun W => Below wr.heap.size wr W) (by kernel_rfl) ((Below.refl wr.heap.size wr).drew) (fun hS0 => ?_)
        change wpAnyH _ _ _ _ _ 17 #[false, false, false, false, false, false, false, false, false, false, false, false, false, false, false, false, false] _ (World.drew _)
        refine wpAnyH_take (i := 0) (v := .int .i64 (q : Int)) rfl (by kernel_rfl) (by kernel_rfl) (by kernel_rfl) (fun _ _ _ h => h) (Or.inl ⟨by rfl, fun w' hS' => by exact op_move rfl rfl⟩) hS0 ?_
        change wpAnyH _ _ _ _ _ _ _ (Act.put _ (some 14) (.int .i64 (q : Int))) _
        simp only [Act.put, List.setIfInBounds_toArray, List.set_cons_zero, List.set_cons_succ]
        refine wpAnyH_take (i := 1) (v := .bool true) rfl (by kernel_rfl) (by kernel_rfl) (by kernel_rfl) (fun _ _ _ h => h) (Or.inl ⟨by rfl, fun w' hS' => by go_simp⟩) hS0 ?_
        change wpAnyH _ _ _ _ _ _ _ (Act.put _ (some 15) (.bool true)) _
        simp only [Act.put, List.setIfInBounds_toArray, List.set_cons_zero, List.set_cons_succ]
        refine wpAnyH_take (i := 2) (v := .bool true) rfl (by kernel_rfl) (by kernel_rfl) (by kernel_rfl) (fun _ _ _ h => h) (Or.inl ⟨by rfl, fun w' hS' => by exact op_move rfl rfl⟩) hS0 ?_
        change wpAnyH _ _ _ _ _ _ _ (Act.put _ (some 16) (.bool true)) _
        simp only [Act.put, List.setIfInBounds_toArray, List.set_cons_zero, List.set_cons_succ]
        refine wpAnyH_take (i := 3) (v := .slice (some la) l.length c) rfl (by kernel_rfl) (by kernel_rfl) (by kernel_rfl) (fun _ _ _ h => h) (Or.inl ⟨by rfl, fun w' hS' => by exact op_move rfl rfl⟩) hS0 ?_
        change wpAnyH _ _ _ _ _ _ _ (Act.put _ (some 17) (.slice (some la) l.length c)) _
        simp only [Act.put, List.setIfInBounds_toArray, List.set_cons_zero, List.set_cons_succ]
        refine wpAnyH_take (i := 4) (v := .int .i64 (k : Int)) rfl (by kernel_rfl) (by kernel_rfl) (by kernel_rfl) (fun _ _ _ h => h) (Or.inl ⟨by rfl, fun w' hS' => by exact op_move rfl rfl⟩) hS0 ?_
        change wpAnyH _ _ _ _ _ _ _ (Act.put _ (some 18) (.int .i64 (k : Int))) _
        simp only [Act.put, List.setIfInBounds_toArray, List.set_cons_zero, List.set_cons_succ]
        refine wpAnyH_take (i := 5) (v := .pointer (some (la.add (k * 3)))) rfl (by kernel_rfl) (by kernel_rfl) (by kernel_rfl) (fun _ _ _ h => h) (Or.inl ⟨by rfl, fun w' hS' => by go_simp⟩) hS0 ?_
        change wpAnyH _ _ _ _ _ _ _ (Act.put _ (some 19) (.pointer (some (la.add (k * 3))))) _
        simp only [Act.put, List.setIfInBounds_toArray, List.set_cons_zero, List.set_cons_succ]
        refine wpAnyH_take (i := 6) (v := .pointer (some ⟨(la.add (k * 3)).block, (la.add (k * 3)).off + 1, none⟩)) rfl (by kernel_rfl) (by kernel_rfl) (by kernel_rfl) (fun _ _ _ h => h) (Or.inl ⟨by rfl, fun w' hS' => by go_simp⟩) hS0 ?_
        change wpAnyH _ _ _ _ _ _ _ (Act.put _ (some 20) (.pointer (some ⟨(la.add (k * 3)).block, (la.add (k * 3)).off + 1, none⟩))) _
        simp only [Act.put, List.setIfInBounds_toArray, List.set_cons_zero, List.set_cons_succ]
        refine wpAnyH_take (i := 7) (v := .string lt) rfl (by kernel_rfl) (by kernel_rfl) (by kernel_rfl) (fun _ _ _ h => h) (Or.inl ⟨by rfl, fun w' hS' => by have h0 := HLC.out _ hS'; go_simp⟩) hS0 ?_
        change wpAnyH _ _ _ _ _ _ _ (Act.put _ (some 21) (.string lt)) _
        simp only [Act.put, List.setIfInBounds_toArray, List.set_cons_zero, List.set_cons_succ]
        refine wpAnyH_take (i := 8) (v := .slice (some oa) O.length co) rfl (by kernel_rfl) (by kernel_rfl) (by kernel_rfl) (fun _ _ _ h => h) (Or.inl ⟨by rfl, fun w' hS' => by exact op_move rfl rfl⟩) hS0 ?_
        change wpAnyH _ _ _ _ _ _ _ (Act.put _ (some 22) (.slice (some oa) O.length co)) _
        simp only [Act.put, List.setIfInBounds_toArray, List.set_cons_zero, List.set_cons_succ]
        refine wpAnyH_take (i := 9) (v := .int .i64 (q : Int)) rfl (by kernel_rfl) (by kernel_rfl) (by kernel_rfl) (fun _ _ _ h => h) (Or.inl ⟨by rfl, fun w' hS' => by exact op_move rfl rfl⟩) hS0 ?_
        change wpAnyH _ _ _ _ _ _ _ (Act.put _ (some 23) (.int .i64 (q : Int))) _
        simp only [Act.put, List.setIfInBounds_toArray, List.set_cons_zero, List.set_cons_succ]
        refine wpAnyH_take (i := 10) (v := .int .i64 (r : Int)) rfl (by kernel_rfl) (by kernel_rfl) (by kernel_rfl) (fun _ _ _ h => h) (Or.inl ⟨by rfl, fun w' hS' => by go_simp⟩) hS0 ?_
        change wpAnyH _ _ _ _ _ _ _ (Act.put _ (some 24) (.int .i64 (r : Int))) _
        simp only [Act.put, List.setIfInBounds_toArray, List.set_cons_zero, List.set_cons_succ]
        refine wpAnyH_take (i := 11) (v := .pointer (some (oa.add (r * 3)))) rfl (by kernel_rfl) (by kernel_rfl) (by kernel_rfl) (fun _ _ _ h => h) (Or.inl ⟨by rfl, fun w' hS' => by go_simp⟩) hS0 ?_
        change wpAnyH _ _ _ _ _ _ _ (Act.put _ (some 25) (.pointer (some (oa.add (r * 3))))) _
        simp only [Act.put, List.setIfInBounds_toArray, List.set_cons_zero, List.set_cons_succ]
        refine wpAnyH_take (i := 12) (v := .pointer (some ⟨(oa.add (r * 3)).block, (oa.add (r * 3)).off + 1, none⟩)) rfl (by kernel_rfl) (by kernel_rfl) (by kernel_rfl) (fun _ _ _ h => h) (Or.inl ⟨by rfl, fun w' hS' => by go_simp⟩) hS0 ?_
        change wpAnyH _ _ _ _ _ _ _ (Act.put _ (some 26) (.pointer (some ⟨(oa.add (r * 3)).block, (oa.add (r * 3)).off + 1, none⟩))) _
        simp only [Act.put, List.setIfInBounds_toArray, List.set_cons_zero, List.set_cons_succ]
        refine wpAnyH_take (i := 13) (v := .string ot) rfl (by kernel_rfl) (by kernel_rfl) (by kernel_rfl) (fun _ _ _ h => h) (Or.inl ⟨by rfl, fun w' hS' => by have h0 := HOC.out _ hS'; go_simp⟩) hS0 ?_
        change wpAnyH _ _ _ _ _ _ _ (Act.put _ (some 27) (.string ot)) _
        simp only [Act.put, List.setIfInBounds_toArray, List.set_cons_zero, List.set_cons_succ]
        refine wpAnyH_ready (rs := [14]) (by kernel_rfl) (by simp) (AllReadyH.cons rfl (fun K hK => ?_) (AllReadyH.nil))
        · skip
          go_simp
          refine (compare_exact lt ot _ HLS.out HOS.out).mono ?_
          rintro e ws ⟨rfl, hb⟩
          rw [HCV.out]
          refine hK.out _ _ (hS0.trans (hb.mono hS0.size)) (fun hS1 => ?_)
          clear hK K
          simp only [List.setIfInBounds_toArray, List.set_cons_zero, List.set_cons_succ]
          refine wpAnyH_take (i := 15) (v := .bool false) rfl (by kernel_rfl) (by kernel_rfl) (by kernel_rfl) (fun _ _ _ h => h) (Or.inl ⟨by rfl, fun w' hS' => by go_simp⟩) hS1 ?_
          change wpAnyH _ _ _ _ _ _ _ (Act.put _ (some 29) (.bool false)) _
          simp only [Act.put, List.setIfInBounds_toArray, List.set_cons_zero, List.set_cons_succ]
          refine wpAnyH_take (i := 16) (v := .bool false) rfl (by kernel_rfl) (by kernel_rfl) (by kernel_rfl) (fun _ _ _ h => h) (Or.inl ⟨by rfl, fun w' hS' => by go_simp⟩) hS1 ?_
          change wpAnyH _ _ _ _ _ _ _ (Act.put _ (some 30) (.bool false)) _
          simp only [Act.put, List.setIfInBounds_toArray, List.set_cons_zero, List.set_cons_succ]
          refine wpAnyH_done (by kernel_rfl) ?_ _
          refine NoPanic.normal ?_
          go_simp
          go_wp2_with fail
          obtain ⟨wv, hwv⟩ : ∃ wv, wv = ws := ⟨_, rfl⟩
          have hSv : Below wr.heap.size wr wv := by rw [hwv]; exact hS1
          rw [← hwv]
          have HOT := Lib.hid (HOT0.out.up hSv)
          have HOB := Lib.hid (HOB0.out.trans (hSv.mono HOB0.out.size))
          have HLA : Hid (∀ W, Below wv.heap.size wv W → W.cell? (la.add (k * 3)) = some (.string lf) ∧ W.cell? ⟨(la.add (k * 3)).block, (la.add (k * 3)).off + 1, none⟩ = some (.string lt) ∧ W.cell? ⟨(la.add (k * 3)).block, (la.add (k * 3)).off + 2, none⟩ = some (.int .i64 ls)) := Lib.hid fun W hB => HLA0.out W (hSv.trans (hB.mono hSv.size))
          clear hSv hwv HOT0 HOB0 HLA0
          have hqc : q ≤ co := Nat.le_trans hq hcap
          by_cases hcq : co = q
          · have HQE := Lib.hid hcq
            have hcq2 := hcq.symm
            subst hcq2
            refine wp_region_noPanic ?_
            refine wp_region_held_drew (S := fun W => Below wv.heap.size wv W) (by kernel_rfl) ((Below.refl wv.heap.size wv).drew) (fun hS0 => ?_)
            change wpAnyH _ _ _ _ _ 15 #[false, false, false, false, false, false, false, false, false, false, false, false, false, false, false] _ (World.drew _)
            refine wpAnyH_take (i := 0) (v := .slice (some oa) O.length q) rfl (by kernel_rfl) (by kernel_rfl) (by kernel_rfl) (fun _ _ _ h => h) (Or.inl ⟨by rfl, fun w' hS' => by exact op_move rfl rfl⟩) hS0 ?_
            change wpAnyH _ _ _ _ _ _ _ (Act.put _ (some 33) (.slice (some oa) O.length q)) _
            simp only [Act.put, List.setIfInBounds_toArray, List.set_cons_zero, List.set_cons_succ]
            refine wpAnyH_take (i := 1) (v := .int .i64 (q : Int)) rfl (by kernel_rfl) (by kernel_rfl) (by kernel_rfl) (fun _ _ _ h => h) (Or.inl ⟨by rfl, fun w' hS' => by exact op_move rfl rfl⟩) hS0 ?_
            change wpAnyH _ _ _ _ _ _ _ (Act.put _ (some 34) (.int .i64 (q : Int))) _
            simp only [Act.put, List.setIfInBounds_toArray, List.set_cons_zero, List.set_cons_succ]
            refine wpAnyH_take (i := 2) (v := .slice (some oa) q q) rfl (by kernel_rfl) (by kernel_rfl) (by kernel_rfl) (fun _ _ _ h => h) (Or.inl ⟨by rfl, fun w' hS' => by go_simp⟩) hS0 ?_
            change wpAnyH _ _ _ _ _ _ _ (Act.put _ (some 35) (.slice (some oa) q q)) _
            simp only [Act.put, List.setIfInBounds_toArray, List.set_cons_zero, List.set_cons_succ]
            refine wpAnyH_take (i := 4) (v := .slice (some la) l.length c) rfl (by kernel_rfl) (by kernel_rfl) (by kernel_rfl) (fun _ _ _ h => h) (Or.inl ⟨by rfl, fun w' hS' => by exact op_move rfl rfl⟩) hS0 ?_
            change wpAnyH _ _ _ _ _ _ _ (Act.put _ (some 37) (.slice (some la) l.length c)) _
            simp only [Act.put, List.setIfInBounds_toArray, List.set_cons_zero, List.set_cons_succ]
            refine wpAnyH_take (i := 5) (v := .int .i64 (k : Int)) rfl (by kernel_rfl) (by kernel_rfl) (by kernel_rfl) (fun _ _ _ h => h) (Or.inl ⟨by rfl, fun w' hS' => by exact op_move rfl rfl⟩) hS0 ?_
            change wpAnyH _ _ _ _ _ _ _ (Act.put _ (some 38) (.int .i64 (k : Int))) _
            simp only [Act.put, List.setIfInBounds_toArray, List.set_cons_zero, List.set_cons_succ]
            refine wpAnyH_take (i := 6) (v := .pointer (some (la.add (k * 3)))) rfl (by kernel_rfl) (by kernel_rfl) (by kernel_rfl) (fun _ _ _ h => h) (Or.inl ⟨by rfl, fun w' hS' => by go_simp⟩) hS0 ?_
            change wpAnyH _ _ _ _ _ _ _ (Act.put _ (some 39) (.pointer (some (la.add (k * 3))))) _
            simp only [Act.put, List.setIfInBounds_toArray, List.set_cons_zero, List.set_cons_succ]
            refine wpAnyH_take (i := 7) (v := .agg #[.string lf, .string lt, .int .i64 ls]) rfl (by kernel_rfl) (by kernel_rfl) (by kernel_rfl) (fun _ _ _ h => h) (Or.inl ⟨by rfl, fun w' hS' => by obtain ⟨h0, h1, h2⟩ := HLA.out _ hS'; go_simp⟩) hS0 ?_
            change wpAnyH _ _ _ _ _ _ _ (Act.put _ (some 40) (.agg #[.string lf, .string lt, .int .i64 ls])) _
            simp only [Act.put, List.setIfInBounds_toArray, List.set_cons_zero, List.set_cons_succ]
            refine wpAnyH_take (i := 10) (v := .slice (some oa) O.length q) rfl (by kernel_rfl) (by kernel_rfl) (by kernel_rfl) (fun _ _ _ h => h) (Or.inl ⟨by rfl, fun w' hS' => by exact op_move rfl rfl⟩) hS0 ?_
            change wpAnyH _ _ _ _ _ _ _ (Act.put _ (some 43) (.slice (some oa) O.length q)) _
            simp only [Act.put, List.setIfInBounds_toArray, List.set_cons_zero, List.set_cons_succ]
            refine wpAnyH_take (i := 11) (v := .int .i64 (q : Int)) rfl (by kernel_rfl) (by kernel_rfl) (by kernel_rfl) (fun _ _ _ h => h) (Or.inl ⟨by rfl, fun w' hS' => by exact op_move rfl rfl⟩) hS0 ?_
            change wpAnyH _ _ _ _ _ _ _ (Act.put _ (some 44) (.int .i64 (q : Int))) _
            simp only [Act.put, List.setIfInBounds_toArray, List.set_cons_zero, List.set_cons_succ]
            refine wpAnyH_take (i := 12) (v := .slice (some oa) 0 0) rfl (by kernel_rfl) (by kernel_rfl) (by kernel_rfl) (fun _ _ _ h => h) (Or.inl ⟨by rfl, fun w' hS' => by go_simp⟩) hS0 ?_
            change wpAnyH _ _ _ _ _ _ _ (Act.put _ (some 45) (.slice (some oa) 0 0)) _
            simp only [Act.put, List.setIfInBounds_toArray, List.set_cons_zero, List.set_cons_succ]
            refine wpAnyH_ready (rs := [3, 8]) (by kernel_rfl) (by simp) (AllReadyH.cons rfl (fun K hK => ?_) (AllReadyH.cons rfl (fun K hK => ?_) (AllReadyH.nil)))
            · skip
              obtain ⟨A5, c5, W5, hr5, ho5, _⟩ := append_prs (Prs.nil wv.drew) q q ((HOT.out.up hS0).take q) (by rw [List.length_take]; omega) (O.take q) rfl (by rw [List.length_take]; omega)
              refine step_append_run2 hr5 rfl rfl rfl rfl rfl ?_
              refine hK.out _ _ (hS0.trans (ho5.2.mono hS0.size)) (fun hS5 => ?_)
              clear hK K
              change wpAnyH _ _ _ _ _ _ _ (Act.put _ (some 36) (.slice A5 (O.take q).length c5)) _
              simp only [Act.put, List.setIfInBounds_toArray, List.set_cons_zero, List.set_cons_succ]
              refine wpAnyH_ready (rs := [8]) (by kernel_rfl) (by simp) (AllReadyH.cons rfl (fun K hK => ?_) (AllReadyH.nil))
              · skip
                obtain ⟨gb, Wb, hrb, hbb5, hBb, hgb⟩ := op_slice29 ⟨lf, lt, ls⟩ W5
                refine step_op_run (hrb _ _ _ rfl rfl) rfl ?_
                refine hK.out _ _ (hS5.trans (hBb.mono hS5.size)) (fun hSb => ?_)
                have ho5b := ho5.up hBb
                clear hK K
                change wpAnyH _ _ _ _ _ _ _ (Act.put _ (some 41) (.slice (some ⟨gb, 0, none⟩) 1 1)) _
                simp only [Act.put, List.setIfInBounds_toArray, List.set_cons_zero, List.set_cons_succ]
                refine wpAnyH_ready (rs := [9]) (by kernel_rfl) (by simp) (AllReadyH.cons rfl (fun K hK => ?_) (AllReadyH.nil))
                · skip
                  obtain ⟨A6, c6, W6, hr6, ho6, _⟩ := append_prs ho5b 1 1 (one_pr hbb5) rfl (O.take q ++ [⟨lf, lt, ls⟩]) rfl (by rw [List.length_append, List.length_take, List.length_singleton]; omega)
                  refine step_append_run2 hr6 rfl rfl rfl rfl rfl ?_
                  have hS6' : Below wv.heap.size wv W6 := Below.trans (Below.refl wv.heap.size wv).drew (ho6.2.mono (Below.size (Below.refl wv.heap.size wv).drew))
                  refine hK.out _ _ hS6' (fun hS6 => ?_)
                  clear hK K
                  change wpAnyH _ _ _ _ _ _ _ (Act.put _ (some 42) (.slice A6 (O.take q ++ [(⟨lf, lt, ls⟩ : Pr)]).length c6)) _
                  simp only [Act.put, List.setIfInBounds_toArray, List.set_cons_zero, List.set_cons_succ]
                  refine wpAnyH_ready (rs := [13]) (by kernel_rfl) (by simp) (AllReadyH.cons rfl (fun K hK => ?_) (AllReadyH.nil))
                  · skip
                    obtain ⟨A7, c7, W7, hr7, ho7, _⟩ := append_prs ho6 0 0 (drop_here HQE.out HQ.out HCAP.out (HOT.out.up hS6)) (by rw [List.length_drop]; omega) N HNE.out HNL.out
                    refine step_append_run2 hr7 rfl rfl rfl rfl rfl ?_
                    have hS7' : Below wv.heap.size wv W7 := Below.trans (Below.refl wv.heap.size wv).drew (ho7.2.mono (Below.size (Below.refl wv.heap.size wv).drew))
                    refine hK.out _ _ hS7' (fun hS7 => ?_)
                    clear hK K
                    change wpAnyH _ _ _ _ _ _ _ (Act.put _ (some 46) (.slice A7 N.length c7)) _
                    simp only [Act.put, List.setIfInBounds_toArray, List.set_cons_zero, List.set_cons_succ]
                    refine wpAnyH_take (i := 14) (v := .slice A7 N.length c7) rfl (by kernel_rfl) (by kernel_rfl) (by kernel_rfl) (fun _ _ _ h => h) (Or.inl ⟨by rfl, fun w' hS' => by exact op_assign rfl rfl⟩) hS7 ?_
                    change wpAnyH _ _ _ _ _ _ _ (Act.put _ (some 3) (.slice A7 N.length c7)) _
                    simp only [Act.put, List.setIfInBounds_toArray, List.set_cons_zero, List.set_cons_succ]
                    refine wpAnyH_done (by kernel_rfl) ?_ _
                    refine NoPanic.normal ?_
                    go_simp
                    go_wp2_with fail
                    go_roundw
                    case rel => exact ⟨k + 1, N, by omega, by go_num, prs_base (prs_base ho7 (Below.refl wv.heap.size wv).drew) HOB.out, HNP.out, HNS.out⟩
                    case measure => simp [intOf]; omega
            · skip
              obtain ⟨gb, Wb, hrb, hbb, hBb, hgb⟩ := op_slice29 ⟨lf, lt, ls⟩ wv.drew
              refine step_op_run (hrb _ _ _ rfl rfl) rfl ?_
              refine hK.out _ _ (hS0.trans (hBb.mono hS0.size)) (fun hSb => ?_)
              clear hK K
              change wpAnyH _ _ _ _ _ _ _ (Act.put _ (some 41) (.slice (some ⟨gb, 0, none⟩) 1 1)) _
              simp only [Act.put, List.setIfInBounds_toArray, List.set_cons_zero, List.set_cons_succ]
              refine wpAnyH_ready (rs := [3]) (by kernel_rfl) (by simp) (AllReadyH.cons rfl (fun K hK => ?_) (AllReadyH.nil))
              · skip
                obtain ⟨A5, c5, W5, hr5, ho5, _⟩ := append_prs (Prs.nil Wb) q q ((HOT.out.up hSb).take q) (by rw [List.length_take]; omega) (O.take q) rfl (by rw [List.length_take]; omega)
                refine step_append_run2 hr5 rfl rfl rfl rfl rfl ?_
                refine hK.out _ _ (hSb.trans (ho5.2.mono hSb.size)) (fun hS5 => ?_)
                have hbb5 := hbb.below ho5.2 hbb.lt
                clear hK K
                change wpAnyH _ _ _ _ _ _ _ (Act.put _ (some 36) (.slice A5 (O.take q).length c5)) _
                simp only [Act.put, List.setIfInBounds_toArray, List.set_cons_zero, List.set_cons_succ]
                refine wpAnyH_ready (rs := [9]) (by kernel_rfl) (by simp) (AllReadyH.cons rfl (fun K hK => ?_) (AllReadyH.nil))
                · skip
                  obtain ⟨A6, c6, W6, hr6, ho6, _⟩ := append_prs ho5 1 1 (one_pr hbb5) rfl (O.take q ++ [⟨lf, lt, ls⟩]) rfl (by rw [List.length_append, List.length_take, List.length_singleton]; omega)
                  refine step_append_run2 hr6 rfl rfl rfl rfl rfl ?_
                  have hS6' : Below wv.heap.size wv W6 := Below.trans hSb (ho6.2.mono (Below.size hSb))
                  refine hK.out _ _ hS6' (fun hS6 => ?_)
                  clear hK K
                  change wpAnyH _ _ _ _ _ _ _ (Act.put _ (some 42) (.slice A6 (O.take q ++ [(⟨lf, lt, ls⟩ : Pr)]).length c6)) _
                  simp only [Act.put, List.setIfInBounds_toArray, List.set_cons_zero, List.set_cons_succ]
                  refine wpAnyH_ready (rs := [13]) (by kernel_rfl) (by simp) (AllReadyH.cons rfl (fun K hK => ?_) (AllReadyH.nil))
                  · skip
                    obtain ⟨A7, c7, W7, hr7, ho7, _⟩ := append_prs ho6 0 0 (drop_here HQE.out HQ.out HCAP.out (HOT.out.up hS6)) (by rw [List.length_drop]; omega) N HNE.out HNL.out
                    refine step_append_run2 hr7 rfl rfl rfl rfl rfl ?_
                    have hS7' : Below wv.heap.size wv W7 := Below.trans hSb (ho7.2.mono (Below.size hSb))
                    refine hK.out _ _ hS7' (fun hS7 => ?_)
                    clear hK K
                    change wpAnyH _ _ _ _ _ _ _ (Act.put _ (some 46) (.slice A7 N.length c7)) _
                    simp only [Act.put, List.setIfInBounds_toArray, List.set_cons_zero, List.set_cons_succ]
                    refine wpAnyH_take (i := 14) (v := .slice A7 N.length c7) rfl (by kernel_rfl) (by kernel_rfl) (by kernel_rfl) (fun _ _ _ h => h) (Or.inl ⟨by rfl, fun w' hS' => by exact op_assign rfl rfl⟩) hS7 ?_
                    change wpAnyH _ _ _ _ _ _ _ (Act.put _ (some 3) (.slice A7 N.length c7)) _
                    simp only [Act.put, List.setIfInBounds_toArray, List.set_cons_zero, List.set_cons_succ]
                    refine wpAnyH_done (by kernel_rfl) ?_ _
                    refine NoPanic.normal ?_
                    go_simp
                    go_wp2_with fail
                    go_roundw
                    case rel => exact ⟨k + 1, N, by omega, by go_num, prs_base (prs_base ho7 hSb) HOB.out, HNP.out, HNS.out⟩
                    case measure => simp [intOf]; omega
          · have HQN := Lib.hid hcq
            refine wp_region_noPanic ?_
            refine wp_region_held_drew (S := fun W => Below wv.heap.size wv W) (by kernel_rfl) ((Below.refl wv.heap.size wv).drew) (fun hS0 => ?_)
            change wpAnyH _ _ _ _ _ 15 #[false, false, false, false, false, false, false, false, false, false, false, false, false, false, false] _ (World.drew _)
            refine wpAnyH_take (i := 0) (v := .slice (some oa) O.length co) rfl (by kernel_rfl) (by kernel_rfl) (by kernel_rfl) (fun _ _ _ h => h) (Or.inl ⟨by rfl, fun w' hS' => by exact op_move rfl rfl⟩) hS0 ?_
            change wpAnyH _ _ _ _ _ _ _ (Act.put _ (some 33) (.slice (some oa) O.length co)) _
            simp only [Act.put, List.setIfInBounds_toArray, List.set_cons_zero, List.set_cons_succ]
            refine wpAnyH_take (i := 1) (v := .int .i64 (q : Int)) rfl (by kernel_rfl) (by kernel_rfl) (by kernel_rfl) (fun _ _ _ h => h) (Or.inl ⟨by rfl, fun w' hS' => by exact op_move rfl rfl⟩) hS0 ?_
            change wpAnyH _ _ _ _ _ _ _ (Act.put _ (some 34) (.int .i64 (q : Int))) _
            simp only [Act.put, List.setIfInBounds_toArray, List.set_cons_zero, List.set_cons_succ]
            refine wpAnyH_take (i := 2) (v := .slice (some oa) q co) rfl (by kernel_rfl) (by kernel_rfl) (by kernel_rfl) (fun _ _ _ h => h) (Or.inl ⟨by rfl, fun w' hS' => by go_simp⟩) hS0 ?_
            change wpAnyH _ _ _ _ _ _ _ (Act.put _ (some 35) (.slice (some oa) q co)) _
            simp only [Act.put, List.setIfInBounds_toArray, List.set_cons_zero, List.set_cons_succ]
            refine wpAnyH_take (i := 4) (v := .slice (some la) l.length c) rfl (by kernel_rfl) (by kernel_rfl) (by kernel_rfl) (fun _ _ _ h => h) (Or.inl ⟨by rfl, fun w' hS' => by exact op_move rfl rfl⟩) hS0 ?_
            change wpAnyH _ _ _ _ _ _ _ (Act.put _ (some 37) (.slice (some la) l.length c)) _
            simp only [Act.put, List.setIfInBounds_toArray, List.set_cons_zero, List.set_cons_succ]
            refine wpAnyH_take (i := 5) (v := .int .i64 (k : Int)) rfl (by kernel_rfl) (by kernel_rfl) (by kernel_rfl) (fun _ _ _ h => h) (Or.inl ⟨by rfl, fun w' hS' => by exact op_move rfl rfl⟩) hS0 ?_
            change wpAnyH _ _ _ _ _ _ _ (Act.put _ (some 38) (.int .i64 (k : Int))) _
            simp only [Act.put, List.setIfInBounds_toArray, List.set_cons_zero, List.set_cons_succ]
            refine wpAnyH_take (i := 6) (v := .pointer (some (la.add (k * 3)))) rfl (by kernel_rfl) (by kernel_rfl) (by kernel_rfl) (fun _ _ _ h => h) (Or.inl ⟨by rfl, fun w' hS' => by go_simp⟩) hS0 ?_
            change wpAnyH _ _ _ _ _ _ _ (Act.put _ (some 39) (.pointer (some (la.add (k * 3))))) _
            simp only [Act.put, List.setIfInBounds_toArray, List.set_cons_zero, List.set_cons_succ]
            refine wpAnyH_take (i := 7) (v := .agg #[.string lf, .string lt, .int .i64 ls]) rfl (by kernel_rfl) (by kernel_rfl) (by kernel_rfl) (fun _ _ _ h => h) (Or.inl ⟨by rfl, fun w' hS' => by obtain ⟨h0, h1, h2⟩ := HLA.out _ hS'; go_simp⟩) hS0 ?_
            change wpAnyH _ _ _ _ _ _ _ (Act.put _ (some 40) (.agg #[.string lf, .string lt, .int .i64 ls])) _
            simp only [Act.put, List.setIfInBounds_toArray, List.set_cons_zero, List.set_cons_succ]
            refine wpAnyH_take (i := 10) (v := .slice (some oa) O.length co) rfl (by kernel_rfl) (by kernel_rfl) (by kernel_rfl) (fun _ _ _ h => h) (Or.inl ⟨by rfl, fun w' hS' => by exact op_move rfl rfl⟩) hS0 ?_
            change wpAnyH _ _ _ _ _ _ _ (Act.put _ (some 43) (.slice (some oa) O.length co)) _
            simp only [Act.put, List.setIfInBounds_toArray, List.set_cons_zero, List.set_cons_succ]
            refine wpAnyH_take (i := 11) (v := .int .i64 (q : Int)) rfl (by kernel_rfl) (by kernel_rfl) (by kernel_rfl) (fun _ _ _ h => h) (Or.inl ⟨by rfl, fun w' hS' => by exact op_move rfl rfl⟩) hS0 ?_
            change wpAnyH _ _ _ _ _ _ _ (Act.put _ (some 44) (.int .i64 (q : Int))) _
            simp only [Act.put, List.setIfInBounds_toArray, List.set_cons_zero, List.set_cons_succ]
            refine wpAnyH_take (i := 12) (v := .slice (some (oa.add (q * 3))) (O.length - q) (co - q)) rfl (by kernel_rfl) (by kernel_rfl) (by kernel_rfl) (fun _ _ _ h => h) (Or.inl ⟨by rfl, fun w' hS' => by go_simp⟩) hS0 ?_
            change wpAnyH _ _ _ _ _ _ _ (Act.put _ (some 45) (.slice (some (oa.add (q * 3))) (O.length - q) (co - q))) _
            simp only [Act.put, List.setIfInBounds_toArray, List.set_cons_zero, List.set_cons_succ]
            refine wpAnyH_ready (rs := [3, 8]) (by kernel_rfl) (by simp) (AllReadyH.cons rfl (fun K hK => ?_) (AllReadyH.cons rfl (fun K hK => ?_) (AllReadyH.nil)))
            · skip
              obtain ⟨A5, c5, W5, hr5, ho5, _⟩ := append_prs (Prs.nil wv.drew) q co ((HOT.out.up hS0).take q) (by rw [List.length_take]; omega) (O.take q) rfl (by rw [List.length_take]; omega)
              refine step_append_run2 hr5 rfl rfl rfl rfl rfl ?_
              refine hK.out _ _ (hS0.trans (ho5.2.mono hS0.size)) (fun hS5 => ?_)
              clear hK K
              change wpAnyH _ _ _ _ _ _ _ (Act.put _ (some 36) (.slice A5 (O.take q).length c5)) _
              simp only [Act.put, List.setIfInBounds_toArray, List.set_cons_zero, List.set_cons_succ]
              refine wpAnyH_ready (rs := [8]) (by kernel_rfl) (by simp) (AllReadyH.cons rfl (fun K hK => ?_) (AllReadyH.nil))
              · skip
                obtain ⟨gb, Wb, hrb, hbb5, hBb, hgb⟩ := op_slice29 ⟨lf, lt, ls⟩ W5
                refine step_op_run (hrb _ _ _ rfl rfl) rfl ?_
                refine hK.out _ _ (hS5.trans (hBb.mono hS5.size)) (fun hSb => ?_)
                have ho5b := ho5.up hBb
                clear hK K
                change wpAnyH _ _ _ _ _ _ _ (Act.put _ (some 41) (.slice (some ⟨gb, 0, none⟩) 1 1)) _
                simp only [Act.put, List.setIfInBounds_toArray, List.set_cons_zero, List.set_cons_succ]
                refine wpAnyH_ready (rs := [9]) (by kernel_rfl) (by simp) (AllReadyH.cons rfl (fun K hK => ?_) (AllReadyH.nil))
                · skip
                  obtain ⟨A6, c6, W6, hr6, ho6, _⟩ := append_prs ho5b 1 1 (one_pr hbb5) rfl (O.take q ++ [⟨lf, lt, ls⟩]) rfl (by rw [List.length_append, List.length_take, List.length_singleton]; omega)
                  refine step_append_run2 hr6 rfl rfl rfl rfl rfl ?_
                  have hS6' : Below wv.heap.size wv W6 := Below.trans (Below.refl wv.heap.size wv).drew (ho6.2.mono (Below.size (Below.refl wv.heap.size wv).drew))
                  refine hK.out _ _ hS6' (fun hS6 => ?_)
                  clear hK K
                  change wpAnyH _ _ _ _ _ _ _ (Act.put _ (some 42) (.slice A6 (O.take q ++ [(⟨lf, lt, ls⟩ : Pr)]).length c6)) _
                  simp only [Act.put, List.setIfInBounds_toArray, List.set_cons_zero, List.set_cons_succ]
                  refine wpAnyH_ready (rs := [13]) (by kernel_rfl) (by simp) (AllReadyH.cons rfl (fun K hK => ?_) (AllReadyH.nil))
                  · skip
                    obtain ⟨A7, c7, W7, hr7, ho7, _⟩ := append_prs ho6 (O.length - q) (co - q) (drop_there HQN.out HQ.out HCAP.out (HOT.out.up hS6)) (by rw [List.length_drop]) N HNE.out HNL.out
                    refine step_append_run2 hr7 rfl rfl rfl rfl rfl ?_
                    have hS7' : Below wv.heap.size wv W7 := Below.trans (Below.refl wv.heap.size wv).drew (ho7.2.mono (Below.size (Below.refl wv.heap.size wv).drew))
                    refine hK.out _ _ hS7' (fun hS7 => ?_)
                    clear hK K
                    change wpAnyH _ _ _ _ _ _ _ (Act.put _ (some 46) (.slice A7 N.length c7)) _
                    simp only [Act.put, List.setIfInBounds_toArray, List.set_cons_zero, List.set_cons_succ]
                    refine wpAnyH_take (i := 14) (v := .slice A7 N.length c7) rfl (by kernel_rfl) (by kernel_rfl) (by kernel_rfl) (fun _ _ _ h => h) (Or.inl ⟨by rfl, fun w' hS' => by exact op_assign rfl rfl⟩) hS7 ?_
                    change wpAnyH _ _ _ _ _ _ _ (Act.put _ (some 3) (.slice A7 N.length c7)) _
                    simp only [Act.put, List.setIfInBounds_toArray, List.set_cons_zero, List.set_cons_succ]
                    refine wpAnyH_done (by kernel_rfl) ?_ _
                    refine NoPanic.normal ?_
                    go_simp
                    go_wp2_with fail
                    go_roundw
                    case rel => exact ⟨k + 1, N, by omega, by go_num, prs_base (prs_base ho7 (Below.refl wv.heap.size wv).drew) HOB.out, HNP.out, HNS.out⟩
                    case measure => simp [intOf]; omega
            · skip
              obtain ⟨gb, Wb, hrb, hbb, hBb, hgb⟩ := op_slice29 ⟨lf, lt, ls⟩ wv.drew
              refine step_op_run (hrb _ _ _ rfl rfl) rfl ?_
              refine hK.out _ _ (hS0.trans (hBb.mono hS0.size)) (fun hSb => ?_)
              clear hK K
              change wpAnyH _ _ _ _ _ _ _ (Act.put _ (some 41) (.slice (some ⟨gb, 0, none⟩) 1 1)) _
              simp only [Act.put, List.setIfInBounds_toArray, List.set_cons_zero, List.set_cons_succ]
              refine wpAnyH_ready (rs := [3]) (by kernel_rfl) (by simp) (AllReadyH.cons rfl (fun K hK => ?_) (AllReadyH.nil))
              · skip
                obtain ⟨A5, c5, W5, hr5, ho5, _⟩ := append_prs (Prs.nil Wb) q co ((HOT.out.up hSb).take q) (by rw [List.length_take]; omega) (O.take q) rfl (by rw [List.length_take]; omega)
                refine step_append_run2 hr5 rfl rfl rfl rfl rfl ?_
                refine hK.out _ _ (hSb.trans (ho5.2.mono hSb.size)) (fun hS5 => ?_)
                have hbb5 := hbb.below ho5.2 hbb.lt
                clear hK K
                change wpAnyH _ _ _ _ _ _ _ (Act.put _ (some 36) (.slice A5 (O.take q).length c5)) _
                simp only [Act.put, List.setIfInBounds_toArray, List.set_cons_zero, List.set_cons_succ]
                refine wpAnyH_ready (rs := [9]) (by kernel_rfl) (by simp) (AllReadyH.cons rfl (fun K hK => ?_) (AllReadyH.nil))
                · skip
                  obtain ⟨A6, c6, W6, hr6, ho6, _⟩ := append_prs ho5 1 1 (one_pr hbb5) rfl (O.take q ++ [⟨lf, lt, ls⟩]) rfl (by rw [List.length_append, List.length_take, List.length_singleton]; omega)
                  refine step_append_run2 hr6 rfl rfl rfl rfl rfl ?_
                  have hS6' : Below wv.heap.size wv W6 := Below.trans hSb (ho6.2.mono (Below.size hSb))
                  refine hK.out _ _ hS6' (fun hS6 => ?_)
                  clear hK K
                  change wpAnyH _ _ _ _ _ _ _ (Act.put _ (some 42) (.slice A6 (O.take q ++ [(⟨lf, lt, ls⟩ : Pr)]).length c6)) _
                  simp only [Act.put, List.setIfInBounds_toArray, List.set_cons_zero, List.set_cons_succ]
                  refine wpAnyH_ready (rs := [13]) (by kernel_rfl) (by simp) (AllReadyH.cons rfl (fun K hK => ?_) (AllReadyH.nil))
                  · skip
                    obtain ⟨A7, c7, W7, hr7, ho7, _⟩ := append_prs ho6 (O.length - q) (co - q) (drop_there HQN.out HQ.out HCAP.out (HOT.out.up hS6)) (by rw [List.length_drop]) N HNE.out HNL.out
                    refine step_append_run2 hr7 rfl rfl rfl rfl rfl ?_
                    have hS7' : Below wv.heap.size wv W7 := Below.trans hSb (ho7.2.mono (Below.size hSb))
                    refine hK.out _ _ hS7' (fun hS7 => ?_)
                    clear hK K
                    change wpAnyH _ _ _ _ _ _ _ (Act.put _ (some 46) (.slice A7 N.length c7)) _
                    simp only [Act.put, List.setIfInBounds_toArray, List.set_cons_zero, List.set_cons_succ]
                    refine wpAnyH_take (i := 14) (v := .slice A7 N.length c7) rfl (by kernel_rfl) (by kernel_rfl) (by kernel_rfl) (fun _ _ _ h => h) (Or.inl ⟨by rfl, fun w' hS' => by exact op_assign rfl rfl⟩) hS7 ?_
                    change wpAnyH _ _ _ _ _ _ _ (Act.put _ (some 3) (.slice A7 N.length c7)) _
                    simp only [Act.put, List.setIfInBounds_toArray, List.set_cons_zero, List.set_cons_succ]
                    refine wpAnyH_done (by kernel_rfl) ?_ _
                    refine NoPanic.normal ?_
                    go_simp
                    go_wp2_with fail
                    go_roundw
                    case rel => exact ⟨k + 1, N, by omega, by go_num, prs_base (prs_base ho7 hSb) HOB.out, HNP.out, HNS.out⟩
                    case measure => simp [intOf]; omega

end Go.Proofs.Ytdnckhagknlfhaa
