/-
  collatorlaw08.RenameMore: it returns true, if Tree tells what it should (TreeTold, as a premise). Nothing that was there is changed.
-/
import Derived.Test.YtdnckhagknlfhaaAwake
import Derived.Test.YtdnckhagknlfhaaRefA
namespace Go.Proofs.Ytdnckhagknlfhaa
open Go.RowKit

/-- items of a tree, as far as the laws need it -/
structure TreeOk (its : List It) : Prop where
  few : its.length ≤ 200
  path : ∀ it ∈ its, it.path.size ≤ 200
  data : ∀ it ∈ its, it.data.size ≤ 60
  once : ∀ it ∈ its, cntP its it.path ≤ 1
theorem TreeOk.fit {its : List It} (h : TreeOk its) : FitI its := ⟨Nat.le_trans h.few (by omega), fun it hi => ⟨Nat.le_trans (h.path it hi) (by omega), Nat.le_trans (h.data it hi) (by omega)⟩⟩
def TreeTold (w : World) (e : Ending) (w' : World) : Prop := ∃ (A : Option Addr) (c : Nat) (its : List It), e = .returned (.slice A its.length c) ∧ ItemsAt w' A its ∧ TreeOk its ∧ Below w.heap.size w w'

/-- the pairs that score so much, among the first ones -/
def cutT (L : List Pr) (u : Int) (k : Nat) : List Pr := (L.take k).filter fun c => decide (u ≤ c.sc)
theorem cutT_step {L : List Pr} {u : Int} {k : Nat} {x : Pr} (h : L[k]? = some x) : cutT L u (k + 1) = cutT L u k ++ if u ≤ x.sc then [x] else [] := by
  obtain ⟨hk, rfl⟩ := List.getElem?_eq_some_iff.1 h
  unfold cutT
  rw [List.take_succ_eq_append_getElem hk, List.filter_append]
  congr 1
  by_cases e : u ≤ L[k].sc <;> simp [e]
theorem cutT_len (L : List Pr) (u : Int) (k : Nat) : (cutT L u k).length ≤ k := Nat.le_trans (List.length_filter_le _ _) (List.length_take_le _ _)
theorem more_eq {F G : List (ByteArray × List ByteArray)} {t u : Int} {L M : List Pr} (h : IsP (CandM F G t) L) (g : IsP (CandM F G u) M) (htu : t ≤ u) : M = L.filter fun c => decide (u ≤ c.sc) := by
  refine g.unique ((h.cut u).congr fun c => ?_)
  constructor
  · rintro ⟨⟨x, hx, y, hy, rfl, hm⟩, hu⟩
    exact ⟨x, hx, y, hy, rfl, by omega⟩
  · rintro ⟨x, hx, y, hy, rfl, hm⟩
    exact ⟨⟨x, hx, y, hy, rfl, by omega⟩, by omega⟩

set_option maxHeartbeats 8000000 in
set_option maxRecDepth 100000 in
theorem more_any (A B : Option Addr) (n m c d : Nat) (x y : Int) (w : World) (x1 : -9223372036854775808 ≤ x) (x2 : x ≤ 9223372036854775807) (y1 : -9223372036854775808 ≤ y) (y2 : y ≤ 9223372036854775807)
    (ha : ∀ W, Below w.heap.size w W → Calls Try.prog 15 #[.slice A n c] W (TreeTold W)) (hb : ∀ W, Below w.heap.size w W → Calls Try.prog 15 #[.slice B m d] W (TreeTold W)) :
    Calls Try.prog 7 #[.slice A n c, .slice B m d, .int .i64 x, .int .i64 y] w fun e w' => e = .returned (.bool true) ∧ Below w.heap.size w w' := by
  have HA := Lib.hid ha
  have HB := Lib.hid hb
  clear ha hb
  go_enter Try.func7, Try.ntmps7
  go_wp2_with fail
  refine (awake_any _).mono ?_
  rintro e w1 ⟨rfl, hB1⟩
  have HB1 := Lib.hid hB1
  clear hB1
  go_wp2_with fail
  refine (HA.out _ HB1.out).mono ?_
  rintro e w2 ⟨A1, c1, its1, rfl, hI1, hO1, hB2⟩
  have HI1 := Lib.hid hI1
  have HO1 := Lib.hid hO1
  have HB2 := Lib.hid (HB1.out.trans (hB2.mono HB1.out.size))
  clear hI1 hO1 hB2
  go_wp2_with fail
  refine (HB.out _ HB2.out).mono ?_
  rintro e w3 ⟨A2, c2, its2, rfl, hI2, hO2, hB3⟩
  have HI1' := Lib.hid (HI1.out.up hB3)
  have HI2 := Lib.hid hI2
  have HO2 := Lib.hid hO2
  have HB3 := Lib.hid (HB2.out.trans (hB3.mono HB2.out.size))
  clear hI2 hO2 hB3 HI1
  go_wp2_with fail
  refine (pick11_any x 101 _ x1 x2 (by omega) (by omega)).mono ?_
  rintro e w4 ⟨rfl, rfl⟩
  obtain ⟨t, ht⟩ : ∃ t : Int, pickI x 101 = t := ⟨_, rfl⟩
  have rt := pickI_range x 101 (by omega)
  rw [ht] at rt ⊢
  obtain ⟨t1, t2⟩ := rt
  clear ht
  go_wp2_with fail
  refine (pick11_any y 60 _ y1 y2 (by omega) (by omega)).mono ?_
  rintro e w5 ⟨rfl, rfl⟩
  obtain ⟨v, hv⟩ : ∃ v : Int, pickI y 60 = v := ⟨_, rfl⟩
  have rv := pickI_range y 60 (by omega)
  rw [hv] at rv ⊢
  obtain ⟨v1, v2⟩ := rv
  clear hv
  go_wp2_with fail
  refine (pairs_told A1 A2 its1 its2 its1.length its2.length c1 c2 t _ HI1'.out HI2.out rfl rfl HO1.out.fit HO2.out.fit).mono ?_
  rintro e w6 ⟨A6, c6, L, rfl, hP, hL, hB6, hLn⟩
  have hLl : L.length ≤ 250 := by have := HO2.out.few; omega
  clear hLn
  have HP := Lib.hid hP
  have HL := Lib.hid hL
  have HB6 := Lib.hid hB6
  clear hP hL hB6
  go_wp2_with fail
  obtain ⟨u, hu⟩ : ∃ u : Int, t + v = u := ⟨_, rfl⟩
  have htu : t ≤ u := by omega
  have hu2 : u ≤ 200 := by omega
  rw [hu]
  clear hu
  go_loopw [15, 16] (fun z i wr => ∃ k : Nat, k ≤ L.length ∧ i = .int .i64 k ∧ Prs w6 wr z (cutT L u k)) (fun _ i _ => L.length - (intOf i).toNat)
  case atStart => exact ⟨0, Nat.zero_le _, rfl, Prs.nil w6⟩
  case round =>
    obtain ⟨k, hk, rfl, hT⟩ := hrel
    by_cases g1 : k < L.length
    · obtain ⟨p, hp⟩ : ∃ p, L[k]? = some p := ⟨_, List.getElem?_eq_getElem g1⟩
      obtain ⟨a, rfl, hal, hca⟩ := (HL.out.up hT.2) (by intro e; subst e; simp at hp)
      obtain ⟨q0, q1, q2⟩ := hca k p hp
      have HST := Lib.hid (cutT_step (u := u) hp)
      have hlen := cutT_len L u k
      clear hp hca
      by_cases g2 : u ≤ p.sc
      · obtain ⟨N, hN⟩ : ∃ N, (cutT L u k).length + 1 = N := ⟨_, rfl⟩
        obtain ⟨A7, c7, W7, hrun7, hP7, hg7⟩ := hT.push p N hN (by omega)
        have HR7 := Lib.hid hrun7
        have HP7 : Hid (Prs w6 W7 (.slice A7 N c7) (cutT L u (k + 1))) := Lib.hid (by rw [HST.out, if_pos g2]; exact hP7)
        clear hrun7 hP7 hg7 hN hT hlen
        go_wp2_with (at_builtin; refine wpList_append_run rfl rfl (by simp [Region.wanted]) rfl rfl HR7.out ?_)
        go_roundw
        case rel => exact ⟨k + 1, by omega, by go_num, HP7.out⟩
        case measure => simp [intOf]; omega
      · have HP7 : Hid (Prs w6 wr u15 (cutT L u (k + 1))) := Lib.hid (by rw [HST.out, if_neg g2, List.append_nil]; exact hT)
        clear hT hlen
        go_wp2_with fail
        go_roundw
        case rel => exact ⟨k + 1, by omega, by go_num, HP7.out⟩
        case measure => simp [intOf]; omega
    · have hkl : k = L.length := by omega
      subst hkl
      obtain ⟨A7, c7, rfl⟩ := own_slice hT.1
      have hX := PrsAt.of_own hT.1 rfl
      have HX := Lib.hid hX
      have HB7 := Lib.hid (hT.2)
      have HIa := Lib.hid ((HI1'.out.up HB6.out).up HB7.out)
      have HIb := Lib.hid ((HI2.out.up HB6.out).up HB7.out)
      have HB8 := Lib.hid (HB3.out.trans ((HB6.out.trans (HB7.out.mono HB6.out.size)).mono HB3.out.size))
      obtain ⟨X, hXe⟩ : ∃ X, X = cutT L u L.length := ⟨_, rfl⟩
      have hXl : X.length ≤ 250 := by rw [hXe]; exact Nat.le_trans (cutT_len _ _ _) hLl
      have HXE : Hid (X = L.filter fun c => decide (u ≤ c.sc)) := Lib.hid (by rw [hXe]; unfold cutT; rw [List.take_of_length_le (Nat.le_refl _)])
      have HX' : Hid (PrsAt wr A7 X) := Lib.hid (by rw [hXe]; exact hX)
      rw [← hXe]
      clear hX hT hXe HX
      go_wp2_with fail
      refine (pairs_told A1 A2 its1 its2 its1.length its2.length c1 c2 u _ HIa.out HIb.out rfl rfl HO1.out.fit HO2.out.fit).mono ?_
      rintro e w9 ⟨A9, c9, M, rfl, hPM, hLM, hB9, _⟩
      have hMX : M = X := by rw [HXE.out]; exact more_eq HP.out hPM htu
      subst hMX
      have HLM := Lib.hid hLM
      have HB9 := Lib.hid hB9
      clear hPM hLM hB9
      go_wp2_with fail
      refine (same_true A9 A7 M M.length M.length c9 c7 _ HLM.out (HX'.out.up HB9.out) rfl rfl (by omega)).mono ?_
      rintro e w10 ⟨rfl, q, rfl⟩
      go_wp2_with fail
      go_ret
      exact ⟨rfl, below_drewN (HB8.out.trans (HB9.out.mono HB8.out.size)) q⟩

end Go.Proofs.Ytdnckhagknlfhaa
