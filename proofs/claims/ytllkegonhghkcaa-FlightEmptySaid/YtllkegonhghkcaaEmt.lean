/-
  collatorlaw15.FlightEmpty returns true: where all have left, and all are done, nothing is there; nobody is told who has left. Nothing that was there is changed.
-/
import Derived.Test.YtllkegonhghkcaaEmp
namespace Go.Proofs.Ytllkegonhghkcaa
open Go.RowKit P15

set_option maxHeartbeats 16000000 in
set_option maxRecDepth 100000 in
theorem empty_any (A : Option Addr) (zs : List Tri) (n c : Nat) (lv : Bool) (w : World) (ha : TrisAt w A zs) (hn : zs.length = n) (h1 : n ≤ 9223372036854775807) (hf : ∀ z ∈ zs, TriFit z) :
    Calls Try.prog 7 #[.slice A n c, .bool lv] w fun e w' => e = .returned (.bool true) ∧ Below w.heap.size w w' := by
  subst hn
  have HA := Lib.hid ha
  have HZ := Lib.hid hf
  clear ha hf
  go_enter Try.func7, Try.ntmps7
  go_wp2_with fail
  refine (awake_any _).mono ?_
  rintro e w1 ⟨rfl, hb⟩
  have HW := Lib.hid hb
  clear hb
  go_wp2_with fail
  refine (fills_any A zs zs.length c _ (HA.out.up HW.out) rfl h1 HZ.out).mono ?_
  rintro e w2 ⟨A2, n2, c2, rfl, hn2, hc2, hf2, hb⟩
  obtain ⟨F, hF⟩ : ∃ F, F = fillsOf zs := ⟨_, rfl⟩
  rw [← hF] at hn2 hf2
  have HGF : Hid (GoodF F) := Lib.hid (by rw [hF]; exact fillsOf_good zs)
  have HNF := Lib.hid hn2
  have HFF := Lib.hid hf2
  have HW := Lib.hid (below_step HW.out hb)
  have hn28 : n2 ≤ 8 := by rw [← hn2]; exact HGF.out.small.1
  clear hF hn2 hf2 hb
  go_wp2_with fail
  go_loopw [7, 8] (fun t i wr => ∃ (k : Nat), k ≤ n2 ∧ t = .int .i64 (sumW (F.take k) : Nat) ∧ i = .int .i64 k ∧ Hid (wr = w2)) (fun _ i _ => n2 - (intOf i).toNat)
  case atStart => exact ⟨0, Nat.zero_le _, rfl, rfl, Lib.hid rfl⟩
  case round =>
    obtain ⟨k, hk, rfl, rfl, HE⟩ := hrel
    by_cases g1 : k < n2
    · obtain ⟨x, hx⟩ : ∃ x, F[k]? = some x := ⟨_, List.getElem?_eq_getElem (by rw [HNF.out]; exact g1)⟩
      obtain ⟨a, B, cw, rfl, hal, p0, p1, p2, p3, _, _⟩ := (show FillsAt wr A2 F by rw [HE.out]; exact HFF.out).at_ hx
      have HS := Lib.hid (sumW_take hx)
      obtain ⟨s, hs⟩ : ∃ s, s = sumW (F.take k) := ⟨_, rfl⟩
      have hs8 : s ≤ 8 := by rw [hs]; exact Nat.le_trans (sumW_take_le F k) (sumW_le HGF.out)
      obtain ⟨m, hm⟩ : ∃ m, m = x.wait.length := ⟨_, rfl⟩
      have hm8 : m ≤ 8 := by have := HGF.out.small.2 x (List.mem_of_getElem? hx); omega
      have HS2 : Hid (sumW (F.take (k + 1)) = s + m) := Lib.hid (by rw [HS.out, hs, hm])
      rw [← hs]
      rw [← hm] at p3
      clear hx hs hm HS
      go_wp2_with fail
      go_roundw
      case rel => exact ⟨k + 1, by omega, by rw [HS2.out]; go_num, by go_num, HE⟩
      case measure => simp [intOf]; omega
    · obtain rfl : k = n2 := by omega
      obtain ⟨v3, rfl⟩ : ∃ w3, w3 = wr := ⟨_, rfl⟩
      have htk : F.take k = F := List.take_of_length_le (by rw [HNF.out]; exact Nat.le_refl _)
      have HFA : Hid (FillsAt v3 A2 F) := Lib.hid (by rw [HE.out]; exact HFF.out)
      have HWB : Hid (Below w.heap.size w v3) := Lib.hid (by rw [HE.out]; exact HW.out)
      rw [htk]
      clear htk HE g1 hk
      cases lv with
      | false =>
        obtain ⟨G, hG⟩ : ∃ G, G = F := ⟨_, rfl⟩
        rw [← hG] at HNF HFA HGF ⊢
        obtain ⟨ng, hng⟩ : ∃ ng, ng = k := ⟨_, rfl⟩
        rw [← hng] at HNF ⊢
        have HNG := HNF
        have HFG := HFA
        have HGG := HGF
        have HWG := HWB
        obtain ⟨Ag, hAg⟩ : ∃ Ag, Ag = A2 := ⟨_, rfl⟩
        obtain ⟨cg, hcg⟩ : ∃ cg, cg = c2 := ⟨_, rfl⟩
        rw [← hAg] at HFG ⊢
        rw [← hcg]
        clear HNF HFA HGF HWB hG HFF HW hn28 hng hAg hcg
        go_upto_region 18 with (fail)
        obtain ⟨sg, hsg⟩ : ∃ sg, sg = sumW G := ⟨_, rfl⟩
        have HSG := Lib.hid hsg
        have hsg8 : sg ≤ 8 := by rw [hsg]; exact sumW_le HGG.out
        rw [← hsg]
        clear hsg
        go_wp2_with fail
        go_loopw [6, 12, 13] (fun f t i wr => ∃ (k nf cf tn : Nat) (Af : Option Addr), k ≤ 8 ∧ f = .slice Af nf cf ∧ t = .int .i64 tn ∧ i = .int .i64 k ∧ Hid ((endTo G k).length = nf) ∧ Hid (FillsAt wr Af (endTo G k)) ∧ Hid (tn + sumW (endTo G k) = sg) ∧ Hid (Below w.heap.size w wr)) (fun _ _ i _ => 8 - (intOf i).toNat)
        case atStart => exact ⟨0, ng, cg, 0, Ag, Nat.zero_le _, rfl, rfl, rfl, HNG, HFG, Lib.hid (by rw [HSG.out]; exact Nat.zero_add _), HWG⟩
        case round =>
          obtain ⟨k, nf, cf, tn, Af, hk, rfl, rfl, rfl, HNF, HFA, HT, HW⟩ := hrel
          have htn : tn ≤ 8 := by have := HT.out; omega
          by_cases g3 : k < 8
          · have t9 : decide ((k : Int) < 8) = true := decide_eq_true (by omega)
            have HGK := Lib.hid (endTo_good HGG.out k)
            obtain ⟨l0, N0, e0, hbg⟩ : ∃ l0 N0 e0, doneF (endTo G k) (k : Int) = (l0, N0, e0) := ⟨_, _, _, rfl⟩
            have HBG := Lib.hid hbg
            clear hbg
            go_wp2_with fail
            refine (idone3 Af (endTo G k) nf cf k _ N0 e0 l0 HBG.out HFA.out HNF.out HGK.out.fit ⟨by omega, by omega⟩).mono ?_
            rintro e v6 ⟨B6, m6, d6, A6, n6, c6, rfl, hm6, _, _, hn6, _, hf6, hb6⟩
            have HN6 := Lib.hid hn6
            have HF6 := Lib.hid hf6
            have HM6 := Lib.hid hm6
            have HW6 := Lib.hid (below_step HW.out hb6)
            have HFA6 := Lib.hid (HFA.out.up hb6)
            clear hn6 hf6 hb6 hm6
            by_cases g4 : (k : Int) ∈ bys (endTo G k)
            · obtain ⟨x, hx, hxb⟩ := mem_bys.1 g4
              have hd := doneF_some (rightB_iff.2 HGK.out.right) hx hxb
              rw [HBG.out] at hd
              injection hd with h1 hd
              injection hd with h2 h3
              have HS2 : Hid (sumW (endTo G (k + 1)) + m6 = sumW (endTo G k)) := Lib.hid (by
                have := sumW_ended HGK.out.right hx hxb
                rw [← HM6.out, h1]
                exact this)
              have HE : Hid (N0 = endTo G (k + 1)) := Lib.hid h2
              have hm6 : m6 ≤ 8 := by have := HS2.out; have := HT.out; omega
              clear h1 h2 g4 hx hxb
              subst h3
              go_wp2_with fail
              go_roundw
              case rel => exact ⟨k + 1, n6, c6, tn + m6, A6, by omega, rfl, by go_num, by go_num, Lib.hid (by rw [← HE.out]; exact HN6.out), Lib.hid (by rw [← HE.out]; exact HF6.out), Lib.hid (by have := HS2.out; have := HT.out; omega), HW6⟩
              case measure => simp [intOf]; omega
            · have hd := doneF_none (rightB_iff.2 HGK.out.right) g4
              rw [HBG.out] at hd
              injection hd with h1 hd
              injection hd with h2 h3
              have HE : Hid (endTo G (k + 1) = endTo G k) := Lib.hid (ended_none g4)
              clear h1 h2 g4
              subst h3
              go_wp2_with fail
              go_roundw
              case rel => exact ⟨k + 1, nf, cf, tn, Af, by omega, rfl, rfl, by go_num, Lib.hid (by rw [HE.out]; exact HNF.out), Lib.hid (by rw [HE.out]; exact HFA6.out), Lib.hid (by rw [HE.out]; exact HT.out), HW6⟩
              case measure => simp [intOf]; omega
          · obtain rfl : k = 8 := by omega
            have he := endTo_all HGG.out
            obtain rfl : nf = 0 := by have := HNF.out; rw [he] at this; exact this.symm
            obtain rfl : tn = sg := by have := HT.out; rw [he] at this; exact this
            clear he
            go_wp2_with fail
            go_ret
            exact ⟨rfl, HW.out⟩
      | true =>
        obtain ⟨s0, hs0⟩ : ∃ s0, s0 = sumW F := ⟨_, rfl⟩
        have hs8 : s0 ≤ 8 := by rw [hs0]; exact sumW_le HGF.out
        have HS0 := Lib.hid hs0
        rw [← hs0]
        clear hs0 HFF HW hn28
        go_wp2_with fail
        go_loopw [6, 7, 9] (fun f t i wr => ∃ (j nf cf s : Nat) (Af : Option Addr), j ≤ 8 ∧ s ≤ 8 ∧ f = .slice Af nf cf ∧ t = .int .i64 s ∧ i = .int .i64 j ∧ Hid ((goneTo F j).length = nf) ∧ Hid (FillsAt wr Af (goneTo F j)) ∧ Hid (s = sumW (goneTo F j)) ∧ Hid (Below w.heap.size w wr)) (fun _ _ i _ => 8 - (intOf i).toNat)
        case atStart => exact ⟨0, k, c2, s0, A2, Nat.zero_le _, hs8, rfl, rfl, rfl, HNF, HFA, HS0, HWB⟩
        case round =>
          obtain ⟨j, nf, cf, s, Af, hj, hs, rfl, rfl, rfl, HNJ, HFJ, HSJ, HWJ⟩ := hrel
          by_cases g3 : j < 8
          · have t9 : decide ((j : Int) < 8) = true := decide_eq_true (by omega)
            have HGK := Lib.hid (goneTo_good HGF.out j)
            obtain ⟨N0, e0, hbg⟩ : ∃ N0 e0, leaveF (goneTo F j) (j : Int) = (N0, e0) := ⟨_, _, rfl⟩
            have HBG := Lib.hid hbg
            clear hbg
            go_wp2_with fail
            refine (ileave3 Af (goneTo F j) nf cf j _ N0 e0 HBG.out HFJ.out HNJ.out HGK.out.fit ⟨by omega, by omega⟩).mono ?_
            rintro e v6 ⟨A6, n6, c6, rfl, hn6, _, hf6, hb6⟩
            have HN6 := Lib.hid hn6
            have HF6 := Lib.hid hf6
            have HW6 := Lib.hid (below_step HWJ.out hb6)
            have HFJ6 := Lib.hid (HFJ.out.up hb6)
            clear hn6 hf6 hb6
            by_cases g4 : (j : Int) ∈ waits (goneTo F j)
            · have hd := leaveF_some (rightB_iff.2 HGK.out.right) g4
              rw [HBG.out] at hd
              injection hd with h2 h3
              have HS2 : Hid (sumW (goneTo F (j + 1)) + 1 = s) := Lib.hid (by rw [HSJ.out]; exact sumW_gone HGK.out.right g4)
              have HE : Hid (N0 = goneTo F (j + 1)) := Lib.hid h2
              have hs1 : 1 ≤ s := by have := HS2.out; omega
              obtain ⟨s1, hs1e⟩ : ∃ s1, s = s1 + 1 := ⟨s - 1, by omega⟩
              subst hs1e
              clear h2 g4
              subst h3
              go_wp2_with fail
              go_roundw
              case rel => exact ⟨j + 1, n6, c6, s1, A6, by omega, by omega, rfl, by go_num, by go_num, Lib.hid (by rw [← HE.out]; exact HN6.out), Lib.hid (by rw [← HE.out]; exact HF6.out), Lib.hid (by have := HS2.out; omega), HW6⟩
              case measure => simp [intOf]; omega
            · have hd := leaveF_none (rightB_iff.2 HGK.out.right) g4
              rw [HBG.out] at hd
              injection hd with h2 h3
              have HE : Hid (goneTo F (j + 1) = goneTo F j) := Lib.hid (gone_none g4)
              clear h2 g4
              subst h3
              go_wp2_with fail
              go_roundw
              case rel => exact ⟨j + 1, nf, cf, s, Af, by omega, hs, rfl, rfl, by go_num, Lib.hid (by rw [HE.out]; exact HNJ.out), Lib.hid (by rw [HE.out]; exact HFJ6.out), Lib.hid (by rw [HE.out]; exact HSJ.out), HW6⟩
              case measure => simp [intOf]; omega
          · obtain rfl : j = 8 := by omega
            obtain ⟨v4, rfl⟩ : ∃ w3, w3 = wr := ⟨_, rfl⟩
            obtain ⟨G, hG⟩ : ∃ G, G = goneTo F 8 := ⟨_, rfl⟩
            have HGG : Hid (GoodF G) := Lib.hid (by rw [hG]; exact goneTo_good HGF.out 8)
            have HNG : Hid (G.length = nf) := Lib.hid (by rw [hG]; exact HNJ.out)
            have HFG : Hid (FillsAt v4 Af G) := Lib.hid (by rw [hG]; exact HFJ.out)
            have HWG := HWJ
            obtain rfl : s = sumW G := by rw [hG]; exact HSJ.out
            have h0 : sumW G = 0 := by rw [hG]; exact goneTo_all HGF.out
            have h00 : (((sumW G : Nat) : Int) != 0) = false := by rw [h0]; rfl
            have h01 : (((sumW G : Nat) : Int) == 0) = true := by rw [h0]; rfl
            obtain ⟨ng, hng⟩ : ∃ ng, ng = nf := ⟨_, rfl⟩
            obtain ⟨Ag, hAg⟩ : ∃ Ag, Ag = Af := ⟨_, rfl⟩
            obtain ⟨cg, hcg⟩ : ∃ cg, cg = cf := ⟨_, rfl⟩
            rw [← hng] at HNG ⊢
            rw [← hAg] at HFG ⊢
            rw [← hcg]
            clear hG HNJ HFJ HSJ HWJ h0 hng hAg hcg hs hs8 hj
            rw [show ((8 : Nat) : Int) = (8 : Int) from rfl]
            go_upto_region 18 with (fail)
            obtain ⟨sg, hsg⟩ : ∃ sg, sg = sumW G := ⟨_, rfl⟩
            have HSG := Lib.hid hsg
            have hsg8 : sg ≤ 8 := by rw [hsg]; exact sumW_le HGG.out
            rw [← hsg]
            clear hsg
            go_wp2_with fail
            go_loopw [6, 12, 13] (fun f t i wr => ∃ (k nf cf tn : Nat) (Af : Option Addr), k ≤ 8 ∧ f = .slice Af nf cf ∧ t = .int .i64 tn ∧ i = .int .i64 k ∧ Hid ((endTo G k).length = nf) ∧ Hid (FillsAt wr Af (endTo G k)) ∧ Hid (tn + sumW (endTo G k) = sg) ∧ Hid (Below w.heap.size w wr)) (fun _ _ i _ => 8 - (intOf i).toNat)
            case atStart => exact ⟨0, ng, cg, 0, Ag, Nat.zero_le _, rfl, rfl, rfl, HNG, HFG, Lib.hid (by rw [HSG.out]; exact Nat.zero_add _), HWG⟩
            case round =>
              obtain ⟨k, nf, cf, tn, Af, hk, rfl, rfl, rfl, HNF, HFA, HT, HW⟩ := hrel
              have htn : tn ≤ 8 := by have := HT.out; omega
              by_cases g3 : k < 8
              · have t9 : decide ((k : Int) < 8) = true := decide_eq_true (by omega)
                have HGK := Lib.hid (endTo_good HGG.out k)
                obtain ⟨l0, N0, e0, hbg⟩ : ∃ l0 N0 e0, doneF (endTo G k) (k : Int) = (l0, N0, e0) := ⟨_, _, _, rfl⟩
                have HBG := Lib.hid hbg
                clear hbg
                go_wp2_with fail
                refine (idone3 Af (endTo G k) nf cf k _ N0 e0 l0 HBG.out HFA.out HNF.out HGK.out.fit ⟨by omega, by omega⟩).mono ?_
                rintro e v6 ⟨B6, m6, d6, A6, n6, c6, rfl, hm6, _, _, hn6, _, hf6, hb6⟩
                have HN6 := Lib.hid hn6
                have HF6 := Lib.hid hf6
                have HM6 := Lib.hid hm6
                have HW6 := Lib.hid (below_step HW.out hb6)
                have HFA6 := Lib.hid (HFA.out.up hb6)
                clear hn6 hf6 hb6 hm6
                by_cases g4 : (k : Int) ∈ bys (endTo G k)
                · obtain ⟨x, hx, hxb⟩ := mem_bys.1 g4
                  have hd := doneF_some (rightB_iff.2 HGK.out.right) hx hxb
                  rw [HBG.out] at hd
                  injection hd with h1 hd
                  injection hd with h2 h3
                  have HS2 : Hid (sumW (endTo G (k + 1)) + m6 = sumW (endTo G k)) := Lib.hid (by
                    have := sumW_ended HGK.out.right hx hxb
                    rw [← HM6.out, h1]
                    exact this)
                  have HE : Hid (N0 = endTo G (k + 1)) := Lib.hid h2
                  have hm6 : m6 ≤ 8 := by have := HS2.out; have := HT.out; omega
                  clear h1 h2 g4 hx hxb
                  subst h3
                  go_wp2_with fail
                  go_roundw
                  case rel => exact ⟨k + 1, n6, c6, tn + m6, A6, by omega, rfl, by go_num, by go_num, Lib.hid (by rw [← HE.out]; exact HN6.out), Lib.hid (by rw [← HE.out]; exact HF6.out), Lib.hid (by have := HS2.out; have := HT.out; omega), HW6⟩
                  case measure => simp [intOf]; omega
                · have hd := doneF_none (rightB_iff.2 HGK.out.right) g4
                  rw [HBG.out] at hd
                  injection hd with h1 hd
                  injection hd with h2 h3
                  have HE : Hid (endTo G (k + 1) = endTo G k) := Lib.hid (ended_none g4)
                  clear h1 h2 g4
                  subst h3
                  go_wp2_with fail
                  go_roundw
                  case rel => exact ⟨k + 1, nf, cf, tn, Af, by omega, rfl, rfl, by go_num, Lib.hid (by rw [HE.out]; exact HNF.out), Lib.hid (by rw [HE.out]; exact HFA6.out), Lib.hid (by rw [HE.out]; exact HT.out), HW6⟩
                  case measure => simp [intOf]; omega
              · obtain rfl : k = 8 := by omega
                have he := endTo_all HGG.out
                obtain rfl : nf = 0 := by have := HNF.out; rw [he] at this; exact this.symm
                obtain rfl : tn = sg := by have := HT.out; rw [he] at this; exact this
                clear he
                go_wp2_with fail
                go_ret
                exact ⟨rfl, HW.out⟩

end Go.Proofs.Ytllkegonhghkcaa
