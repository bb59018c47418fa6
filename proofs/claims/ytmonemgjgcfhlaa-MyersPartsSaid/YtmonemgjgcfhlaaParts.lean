/-
  collatorlaw05.MyersParts: whatever the raw numbers and the line, it returns true; nothing that was there is changed.
-/
import Derived.Test.YtmonemgjgcfhlaaTurned
namespace Go.Proofs.Ytmonemgjgcfhlaa
open Go.RowKit

/-- another line -/
def oth (s : ByteArray) : ByteArray := (⟨#[111, 116, 104, 101, 114, 32]⟩ : ByteArray) ++ s
theorem oth_size (s : ByteArray) : (oth s).size = 6 + s.size := by
  unfold oth
  rw [ByteArray.size_append]
  rfl
theorem ed_one (a b : List ByteArray) (l : ByteArray) : Pm.ed (a ++ [l]) b = Pm.ed a b + 1 ∨ Pm.ed (a ++ [l]) b + 1 = Pm.ed a b := by
  have h1 := Pm.ed_up l a.reverse b.reverse
  have h2 := Pm.ed_dn l a.reverse b.reverse
  have e : l :: a.reverse = (a ++ [l]).reverse := by simp
  rw [e, Pm.ed_back, Pm.ed_back] at h1 h2
  have p1 := Pm.ed_parity a b
  have p2 := Pm.ed_parity (a ++ [l]) b
  rw [List.length_append] at p2
  simp only [List.length_cons, List.length_nil] at p2
  omega
/-- how the law's loop stands -/
def PaAt (w7 wr : World) (b : List ByteArray) (k : Nat) (v : Value) : Prop := Own w7 wr v ((b.map oth).take k)

set_option maxHeartbeats 1000000 in
set_option maxRecDepth 100000 in
theorem parts_walk (A B C D : Option Addr) (xs ys zs ts : List Int) (pa pb pc pd : Nat) (line : ByteArray) (w : World) (ha : Ints w w.heap.size A xs) (hb : Ints w w.heap.size B ys) (hc : Ints w w.heap.size C zs) (hd : Ints w w.heap.size D ts) (h1 : xs.length ≤ 140737488355328) (h2 : ys.length ≤ 140737488355328) (h3 : zs.length ≤ 140737488355328) (h4 : ts.length ≤ 140737488355328)
    (hx : ∀ z ∈ xs, -9223372036854775808 ≤ z ∧ z ≤ 9223372036854775807) (hy : ∀ z ∈ ys, -9223372036854775808 ≤ z ∧ z ≤ 9223372036854775807) (hz : ∀ z ∈ zs, -9223372036854775808 ≤ z ∧ z ≤ 9223372036854775807) (ht : ∀ z ∈ ts, -9223372036854775808 ≤ z ∧ z ≤ 9223372036854775807) (hline : line.size ≤ maxLen) :
    Calls Try.prog 8 #[.slice A xs.length pa, .slice B ys.length pb, .slice C zs.length pc, .slice D ts.length pd, .string line] w fun e w' => e = .returned (.bool true) ∧ Below w.heap.size w w' := by
  have HX := Lib.hid hx
  have HY := Lib.hid hy
  have HZ := Lib.hid hz
  have HT := Lib.hid ht
  clear hx hy hz ht
  go_enter Try.func8, Try.ntmps8
  go_wp2_with fail
  refine (awake_any _).mono ?_
  rintro e w1 ⟨rfl, hb1⟩
  go_wp2_with fail
  refine (lines_at 15 15 rfl (by omega) (by omega) _ xs _ _ (up_of' ha hb1) h1 HX.out).mono ?_
  rintro e wa ⟨Aa, ca, rfl, hoa, hca, hbn⟩
  replace hb1 := hb1.trans (hbn.mono hb1.size)
  clear hbn
  go_wp2_with fail
  refine (lines_at 15 15 rfl (by omega) (by omega) _ ys _ _ (up_of' hb hb1) h2 HY.out).mono ?_
  rintro e wb ⟨Ab, cb, rfl, hob, hcb, hbn⟩
  replace hb1 := hb1.trans (hbn.mono hb1.size)
  replace hoa := hoa.up2 hbn
  clear hbn
  go_wp2_with fail
  refine (lines_at 15 15 rfl (by omega) (by omega) _ zs _ _ (up_of' hc hb1) h3 HZ.out).mono ?_
  rintro e wc ⟨Ac, cc, rfl, hoc, hcc, hbn⟩
  replace hb1 := hb1.trans (hbn.mono hb1.size)
  replace hoa := hoa.up2 hbn
  replace hob := hob.up2 hbn
  clear hbn
  go_wp2_with fail
  refine (lines_at 15 15 rfl (by omega) (by omega) _ ts _ _ (up_of' hd hb1) h4 HT.out).mono ?_
  rintro e wd ⟨Ad, cd, rfl, hod, hcd, hbn⟩
  replace hb1 := hb1.trans (hbn.mono hb1.size)
  replace hoa := hoa.up2 hbn
  replace hob := hob.up2 hbn
  replace hoc := hoc.up2 hbn
  clear hbn
  have hla := lines_len 15 xs
  have hlb := lines_len 15 ys
  have hlc := lines_len 15 zs
  have hld := lines_len 15 ts
  have HFa := Lib.hid (lines_fit (m := 15) xs)
  have HFb := Lib.hid (lines_fit (m := 15) ys)
  have HFc := Lib.hid (lines_fit (m := 15) zs)
  have HFd := Lib.hid (lines_fit (m := 15) ts)
  have HSa : Hid (∀ s ∈ linesL 15 xs, s.size ≤ 5) := Lib.hid fun s hs => lines_size hs
  have HSb : Hid (∀ s ∈ linesL 15 ys, s.size ≤ 5) := Lib.hid fun s hs => lines_size hs
  generalize linesL 15 xs = a at *
  generalize linesL 15 ys = b at *
  generalize linesL 15 zs = c at *
  generalize linesL 15 ts = d at *
  clear ha hb hc hd HX HY HZ HT
  obtain ⟨X, hX⟩ : ∃ X, X = a ++ c := ⟨_, rfl⟩
  have hXl : X.length ≤ 30 := by rw [hX, List.length_append]; omega
  obtain ⟨AX1, cX1, wX1, hr1, hq1⟩ := append_own (Own.nil wd) a.length ca hoa rfl a rfl (by omega)
  obtain ⟨AX2, cX2, wX2, hr2, hq2⟩ := append_own hq1 c.length cc (hoc.below hq1.2) rfl X hX (by omega)
  have HRX1 := Lib.hid hr1
  have HRX2 := Lib.hid hr2
  have HX := Lib.hid hX
  have hbn := hq2.2
  replace hoa := hoa.up2 hbn
  replace hob := hob.up2 hbn
  replace hoc := hoc.up2 hbn
  replace hod := hod.up2 hbn
  replace hb1 := hb1.trans (hbn.mono hb1.size)
  have hoX := hq2.strs
  clear hr1 hr2 hX hq1 hq2 hbn
  obtain ⟨Y, hY⟩ : ∃ Y, Y = b ++ d := ⟨_, rfl⟩
  have hYl : Y.length ≤ 30 := by rw [hY, List.length_append]; omega
  obtain ⟨AY1, cY1, wY1, hr1, hq1⟩ := append_own (Own.nil wX2) b.length cb hob rfl b rfl (by omega)
  obtain ⟨AY2, cY2, wY2, hr2, hq2⟩ := append_own hq1 d.length cd (hod.below hq1.2) rfl Y hY (by omega)
  have HRY1 := Lib.hid hr1
  have HRY2 := Lib.hid hr2
  have HY := Lib.hid hY
  have hbn := hq2.2
  replace hoa := hoa.up2 hbn
  replace hob := hob.up2 hbn
  replace hoc := hoc.up2 hbn
  replace hod := hod.up2 hbn
  replace hoX := hoX.up2 hbn
  replace hb1 := hb1.trans (hbn.mono hb1.size)
  have hoY := hq2.strs
  clear hr1 hr2 hY hq1 hq2 hbn
  obtain ⟨n, hn⟩ : ∃ n, n = Pm.ed a b := ⟨_, rfl⟩
  obtain ⟨m, hm⟩ : ∃ m, m = Pm.ed (a ++ [line]) b := ⟨_, rfl⟩
  obtain ⟨x, hx⟩ : ∃ x, x = Pm.ed X Y := ⟨_, rfl⟩
  obtain ⟨y, hy⟩ : ∃ y, y = Pm.ed c d := ⟨_, rfl⟩
  have hnt : n ≤ 30 := by rw [hn]; have := Pm.ed_top a b; omega
  have hyt : y ≤ 30 := by rw [hy]; have := Pm.ed_top c d; omega
  have hxy : x ≤ n + y := by rw [hx, hn, hy, HX.out, HY.out]; exact Pm.ed_append a b c d
  have hxy' : (x : Int) ≤ (n : Int) + (y : Int) := by omega
  have hmn : m = n + 1 ∨ m + 1 = n := by rw [hm, hn]; exact ed_one a b line
  have HN := Lib.hid hn
  have HM := Lib.hid hm
  have HXX := Lib.hid hx
  have HYY := Lib.hid hy
  have HMN := Lib.hid hmn
  clear hn hm hx hy hmn
  go_wp2_with (first
    | (at_builtin; refine wpList_append_run (o := ⟨some 32, _, _, _, _, _⟩) rfl rfl (by simp [Region.wanted]) rfl rfl HRX1.out ?_)
    | (at_builtin; refine wpList_append_run (o := ⟨some 34, _, _, _, _, _⟩) rfl rfl (by simp [Region.wanted]) rfl rfl HRX2.out ?_)
    | (at_builtin; refine wpList_append_run (o := ⟨some 36, _, _, _, _, _⟩) rfl rfl (by simp [Region.wanted]) rfl rfl HRY1.out ?_)
    | (at_builtin; refine wpList_append_run (o := ⟨some 38, _, _, _, _, _⟩) rfl rfl (by simp [Region.wanted]) rfl rfl HRY2.out ?_))
  refine (cost_at' Aa Ab a b a.length b.length ca cb (n : Int) _ hoa hob rfl rfl (by omega) HFa.out HFb.out (by rw [HN.out])).mono ?_
  rintro e v1 ⟨rfl, hbn⟩
  replace hoa := hoa.up2 hbn
  replace hob := hob.up2 hbn
  replace hoc := hoc.up2 hbn
  replace hod := hod.up2 hbn
  replace hoX := hoX.up2 hbn
  replace hoY := hoY.up2 hbn
  replace hb1 := hb1.trans (hbn.mono hb1.size)
  clear hbn
  obtain ⟨Z, hZ⟩ : ∃ Z, Z = a ++ [line] := ⟨_, rfl⟩
  have hZl : Z.length ≤ 16 := by rw [hZ, List.length_append]; simp; omega
  obtain ⟨AZ1, cZ1, wZ1, hr1, hq1⟩ := append_own (Own.nil v1) a.length ca hoa rfl a rfl (by omega)
  obtain ⟨AZ2, cZ2, wZ2, hr2, hq2⟩ := append_own (hq1.alloc (.cells #[.string line] 9)) 1 1 (strs_new wZ1 [line]) rfl Z hZ (by omega)
  have HRZ1 := Lib.hid hr1
  have HRZ2 := Lib.hid hr2
  have hFZ : ∀ s ∈ Z, s.size ≤ maxLen := fun s hs => by
    rw [hZ] at hs
    rcases List.mem_append.1 hs with h | h
    · exact HFa.out s h
    · simp at h; rw [h]; exact hline
  have HFZ := Lib.hid hFZ
  have HZ := Lib.hid hZ
  have hbn := hq2.2
  replace hoa := hoa.up2 hbn
  replace hob := hob.up2 hbn
  replace hoc := hoc.up2 hbn
  replace hod := hod.up2 hbn
  replace hoX := hoX.up2 hbn
  replace hoY := hoY.up2 hbn
  replace hb1 := hb1.trans (hbn.mono hb1.size)
  have hoZ := hq2.strs
  clear hr1 hr2 hZ hq1 hq2 hbn hFZ
  go_wp2_with (first
    | (at_builtin; refine wpList_append_run (o := ⟨some 43, _, _, _, _, _⟩) rfl rfl (by simp [Region.wanted]) rfl rfl HRZ1.out ?_)
    | (at_builtin; refine wpList_append_run (o := ⟨some 46, _, _, _, _, _⟩) rfl rfl (by simp [Region.wanted]) rfl rfl HRZ2.out ?_))
  refine (cost_at' AZ2 Ab Z b Z.length b.length cZ2 cb (m : Int) _ hoZ hob rfl rfl (by omega) HFZ.out HFb.out (by rw [HM.out, HZ.out])).mono ?_
  rintro e v2 ⟨rfl, hbn⟩
  replace hoa := hoa.up2 hbn
  replace hob := hob.up2 hbn
  replace hoc := hoc.up2 hbn
  replace hod := hod.up2 hbn
  replace hoX := hoX.up2 hbn
  replace hoY := hoY.up2 hbn
  replace hb1 := hb1.trans (hbn.mono hb1.size)
  clear hbn hoZ
  go_wp2_with fail
  go_loopw [20, 21] (fun v i wr => ∃ k : Nat, k ≤ b.length ∧ i = .int .i64 k ∧ PaAt v2 wr b k v) (fun _ i _ => b.length - (intOf i).toNat)
  case atStart => exact ⟨0, Nat.zero_le _, rfl, by unfold PaAt; rw [List.take_zero]; exact Own.nil v2⟩
  case round =>
    obtain ⟨k, hk, rfl, hT⟩ := hrel
    unfold PaAt at hT
    by_cases g1 : k < b.length
    · obtain ⟨s, hs⟩ : ∃ s, s = b[k] := ⟨_, rfl⟩
      have hs5 := HSb.out s (by rw [hs]; exact List.getElem_mem _)
      have hst : (b.map oth).take (k + 1) = (b.map oth).take k ++ [oth s] := by
        rw [List.take_succ_eq_append_getElem (by rw [List.length_map]; exact g1), hs]
        simp
      obtain ⟨ad, rfl, hab, hca0⟩ := (hob.up2 hT.2).at_ g1
      have hca : wr.cell? (ad.add k) = some (.string s) := by rw [hs]; exact hca0
      have hlk : ((b.map oth).take (k + 1)).length ≤ 15 := by rw [List.length_take, List.length_map]; omega
      obtain ⟨Q, hQ⟩ : ∃ Q, Q = (b.map oth).take (k + 1) := ⟨_, rfl⟩
      rw [← hQ] at hst hlk
      have HQ := Lib.hid hQ
      obtain ⟨Ad, cd', wd', hrd, hod⟩ := append_own (hT.alloc (.cells #[.string (oth s)] 9)) 1 1 (strs_new wr [oth s]) rfl Q hst (by omega)
      have HRD := Lib.hid hrd
      have HOD := Lib.hid hod
      obtain ⟨Ao, co, rfl, _⟩ := hT.shape
      have hov : ¬ 9223372036854775807 < (⟨#[111, 116, 104, 101, 114, 32]⟩ : ByteArray).size + s.size := by
        have : (⟨#[111, 116, 104, 101, 114, 32]⟩ : ByteArray).size = 6 := rfl
        omega
      have hov' : ¬ 9223372036854775807 < 6 + s.size := by omega
      unfold oth at HRD
      clear hst hca0 hs hrd hod hQ
      go_wp2_with (at_builtin; refine wpList_append_run (o := ⟨some 62, _, _, _, _, _⟩) rfl rfl (by simp [Region.wanted]) rfl rfl HRD.out ?_)
      go_roundw
      case rel => exact ⟨k + 1, by omega, by go_num, by unfold PaAt; rw [← HQ.out]; exact HOD.out⟩
      case measure => simp [intOf]; omega
    · obtain ⟨O, hO⟩ : ∃ O, O = b.map oth := ⟨_, rfl⟩
      rw [List.take_of_length_le (by rw [List.length_map]; omega), ← hO] at hT
      have hOl : O.length = b.length := by rw [hO, List.length_map]
      have hap : ∀ p ∈ a, p ∉ O := fun p hp hq => by
        rw [hO] at hq
        obtain ⟨s, _, rfl⟩ := List.mem_map.1 hq
        have h1 := HSa.out _ hp
        rw [oth_size] at h1
        omega
      have HED : Hid (Pm.ed a O = a.length + b.length) := Lib.hid (by rw [← hOl]; exact Pm.ed_apart _ a O (Nat.le_refl _) hap)
      have hFO : ∀ s ∈ O, s.size ≤ maxLen := fun s hs => by
        rw [hO] at hs
        obtain ⟨u, hu, rfl⟩ := List.mem_map.1 hs
        have h1 := HSb.out u hu
        rw [oth_size]
        unfold maxLen
        omega
      have HFO := Lib.hid hFO
      obtain ⟨AO, cO, rfl, _⟩ := hT.shape
      have hbn := hT.2
      replace hoa := hoa.up2 hbn
      replace hob := hob.up2 hbn
      replace hoc := hoc.up2 hbn
      replace hod := hod.up2 hbn
      replace hoX := hoX.up2 hbn
      replace hoY := hoY.up2 hbn
      replace hb1 := hb1.trans (hbn.mono hb1.size)
      have hoO := hT.strs
      have HOL := Lib.hid hOl
      have hOle : O.length ≤ 15 := by omega
      have hFX : ∀ s ∈ X, s.size ≤ maxLen := fun s hs => by
        rw [HX.out] at hs
        rcases List.mem_append.1 hs with h | h
        · exact HFa.out s h
        · exact HFc.out s h
      have hFY : ∀ s ∈ Y, s.size ≤ maxLen := fun s hs => by
        rw [HY.out] at hs
        rcases List.mem_append.1 hs with h | h
        · exact HFb.out s h
        · exact HFd.out s h
      have HFX := Lib.hid hFX
      have HFY := Lib.hid hFY
      have hmm : ((((m : Int) == (n : Int) + 1) : Bool) = true) ∨ ((((m : Int) == (n : Int) + 1) : Bool) = false ∧ (((m : Int) == (n : Int) - 1) : Bool) = true) := by
        rcases HMN.out with h | h
        · exact .inl (by rw [beq_iff_eq]; omega)
        · exact .inr ⟨by rw [beq_eq_false_iff_ne]; omega, by rw [beq_iff_eq]; omega⟩
      have HCM : Hid (((a.length : Int) + O.length - (Pm.ed a O : Nat)) / 2 = 0) := Lib.hid (by rw [HED.out, HOL.out]; omega)
      clear hO hOl hap hFO hT hbn hFX hFY
      rcases hmm with hmm | ⟨hmm, hmm2⟩
      all_goals
        go_wp2_with fail
        refine (cost_at' AX2 AY2 X Y X.length Y.length cX2 cY2 (x : Int) _ hoX hoY rfl rfl (by omega) HFX.out HFY.out (by rw [HXX.out])).mono ?_
        rintro e v3 ⟨rfl, hbn⟩
        replace hoa := hoa.up2 hbn
        replace hoc := hoc.up2 hbn
        replace hod := hod.up2 hbn
        replace hoO := hoO.up2 hbn
        replace hb1 := hb1.trans (hbn.mono hb1.size)
        clear hbn
        go_wp2_with fail
        refine (cost_at' Ac Ad c d c.length d.length cc cd (y : Int) _ hoc hod rfl rfl (by omega) HFc.out HFd.out (by rw [HYY.out])).mono ?_
        rintro e v4 ⟨rfl, hbn⟩
        replace hoa := hoa.up2 hbn
        replace hoO := hoO.up2 hbn
        replace hb1 := hb1.trans (hbn.mono hb1.size)
        clear hbn
        go_wp2_with fail
        refine (cost_at' Aa AO a O a.length O.length ca cO ((a.length : Int) + (b.length : Int)) _ hoa hoO rfl rfl (by omega) HFa.out HFO.out (by rw [HED.out]; simp)).mono ?_
        rintro e v5 ⟨rfl, hbn⟩
        replace hoa := hoa.up2 hbn
        replace hoO := hoO.up2 hbn
        replace hb1 := hb1.trans (hbn.mono hb1.size)
        clear hbn
        go_wp2_with fail
        refine (common_at' Aa AO a O a.length O.length ca cO 0 _ hoa hoO rfl rfl (by omega) HFa.out HFO.out HCM.out).mono ?_
        rintro e v6 ⟨rfl, hbn⟩
        replace hb1 := hb1.trans (hbn.mono hb1.size)
        clear hbn
        go_wp2_with fail
        go_ret
        exact ⟨rfl, hb1⟩

end Go.Proofs.Ytmonemgjgcfhlaa
