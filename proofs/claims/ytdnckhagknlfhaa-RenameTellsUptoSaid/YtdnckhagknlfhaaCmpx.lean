/-
  collatorref01.split and collatorref01.Compare, exactly: the parts of a text; which one of two texts is less. Nothing that was there is changed.
-/
import Derived.Test.YtdnckhagknlfhaaSpl
import Derived.Test.YtdnckhagknlfhaaRefF
namespace Go.Proofs.Ytdnckhagknlfhaa
open Go.RowKit

/-- a text's bytes -/
def td (x : ByteArray) : List UInt8 := x.data.toList
theorem td_inj {x y : ByteArray} (h : td x = td y) : x = y := data_inj h
theorem less_is : ∀ a b : List UInt8, Op.bytesLess a b = decide (lcmp a b = -1)
  | [], [] => by simp [Op.bytesLess, lcmp]
  | [], _ :: _ => by simp [Op.bytesLess, lcmp]
  | _ :: _, [] => by simp [Op.bytesLess, lcmp]
  | a :: s, b :: t => by
    have ih := less_is s t
    unfold Op.bytesLess lcmp
    by_cases e : a = b
    · subst e
      simp [ih]
    · rw [if_neg e]
      have h1 := cmpI_neg (a.toNat : Int) (b.toNat : Int)
      have h2 := cmpI_val (a.toNat : Int) (b.toNat : Int)
      have h3 : a < b ↔ a.toNat < b.toNat := UInt8.lt_iff_toNat_lt
      have e' : (a == b) = false := by simpa using e
      rw [e', Bool.false_and, Bool.or_false]
      apply decide_eq_decide.2
      rw [h3]
      omega
theorem lcmp_zero : ∀ {a b : List UInt8}, lcmp a b = 0 → a = b
  | [], [], _ => rfl
  | [], _ :: _, h => by simp [lcmp] at h
  | _ :: _, [], h => by simp [lcmp] at h
  | a :: s, b :: t, h => by
    rw [lcmp] at h
    by_cases e : a = b
    · rw [if_pos e] at h; rw [e, lcmp_zero h]
    · rw [if_neg e] at h
      have := cmpI_zero h
      exact absurd (UInt8.toNat_inj.1 (by omega)) e
theorem lcmp_val : ∀ a b : List UInt8, lcmp a b = -1 ∨ lcmp a b = 0 ∨ lcmp a b = 1
  | [], [] => .inr (.inl rfl)
  | [], _ :: _ => .inl rfl
  | _ :: _, [] => .inr (.inr rfl)
  | a :: s, b :: t => by
    rw [lcmp]
    split
    · exact lcmp_val s t
    · exact cmpI_val _ _
theorem lcmp_self : ∀ a : List UInt8, lcmp a a = 0
  | [] => rfl
  | a :: s => by rw [lcmp, if_pos rfl, lcmp_self s]

/-- what the loop has made -/
def SplX (s : ByteArray) (w : World) (v : Value) (k l : Nat) (wr : World) : Prop :=
  ∃ X, Own w wr v X ∧ X.length ≤ k ∧ X.map td ++ spl ((td s).drop l) = spl (td s) ∧ ∀ c ∈ ((td s).drop l).take (k - l), c ≠ 47
def PartsX (s : ByteArray) (w : World) (e : Ending) (w' : World) : Prop :=
  ∃ A c X, e = .returned (.slice A X.length c) ∧ Strs w' w'.heap.size A X ∧ X.map td = spl (td s) ∧ X.length ≤ s.size + 1 ∧ Below w.heap.size w w'
theorem td_at (s : ByteArray) (k : Nat) (h : k < s.size) : (td s).drop k = s[k] :: (td s).drop (k + 1) := by
  have hl : (td s).length = s.size := by rw [td, ← Lib.size_eq]
  rw [List.drop_eq_getElem_cons (by omega)]
  rfl
theorem take_more (s : ByteArray) (k l : Nat) (h : k < s.size) (hl : l ≤ k) : ((td s).drop l).take (k + 1 - l) = ((td s).drop l).take (k - l) ++ [s[k]] := by
  have hs : (td s).length = s.size := by rw [td, ← Lib.size_eq]
  have e : k + 1 - l = (k - l) + 1 := by omega
  rw [e, List.take_succ_eq_append_getElem (by rw [List.length_drop]; omega), List.getElem_drop]
  congr 2
  have e2 : l + (k - l) = k := by omega
  simp only [e2]
  rfl
theorem drop_parts (s : ByteArray) (k l : Nat) (hl : l ≤ k) : (td s).drop l = ((td s).drop l).take (k - l) ++ (td s).drop k := by
  have e : (td s).drop k = ((td s).drop l).drop (k - l) := by rw [List.drop_drop]; congr 1; omega
  rw [e, List.take_append_drop]

set_option maxHeartbeats 4000000 in
set_option maxRecDepth 100000 in
theorem split_exact (s : ByteArray) (w : World) (hs : s.size ≤ 1048576) : Calls Try.prog 38 #[.string s] w (PartsX s w) := by
  have hsl : (td s).length = s.size := by rw [td, ← Lib.size_eq]
  have HSL := Lib.hid hsl
  clear hsl
  go_enter Try.func38, Try.ntmps38
  go_wp2_with fail
  go_loopw [3, 4, 5] (fun v f i wr => ∃ k l : Nat, k ≤ s.size ∧ l ≤ k ∧ i = .int .i64 k ∧ f = .int .i64 l ∧ SplX s w v k l wr) (fun _ _ i _ => s.size - (intOf i).toNat)
  case atStart => exact ⟨0, 0, Nat.zero_le _, Nat.le_refl _, rfl, rfl, [], Own.nil w, Nat.le_refl _, rfl, fun c hc => by simp at hc⟩
  case round =>
    obtain ⟨k, l, hk, hl, rfl, rfl, hT⟩ := hrel
    have HT := Lib.hid hT
    clear hT
    by_cases g1 : k < s.size
    · cases hz : (((s[k].toNat : Int) == 47) : Bool) with
      | false =>
        have hne : s[k] ≠ 47 := fun e => by rw [e] at hz; exact absurd hz (by decide)
        have HNE := Lib.hid hne
        clear hne
        go_wp2_with fail
        go_roundw
        case rel => exact ⟨k + 1, l, by omega, by omega, by go_num, rfl, by
          obtain ⟨X, h1, h2, h3, h4⟩ := HT.out
          refine ⟨X, h1, by omega, h3, fun c hc => ?_⟩
          rw [take_more s k l g1 hl] at hc
          rcases List.mem_append.1 hc with h | h
          · exact h4 c h
          · have : c = s[k] := by simpa using h
            rw [this]; exact HNE.out⟩
        case measure => simp [intOf]; omega
      | true =>
        obtain ⟨X, h1, h2, h3, h4⟩ := HT.out
        have hek : s[k] = 47 := by
          have : (s[k].toNat : Int) = 47 := by simpa using hz
          apply UInt8.toNat_inj.1
          have e47 : (47 : UInt8).toNat = 47 := rfl
          omega
        have h5 : (X ++ [s.extract l k]).map td ++ spl ((td s).drop (k + 1)) = spl (td s) := by
          rw [← h3, List.map_append, List.append_assoc]
          congr 1
          rw [drop_parts s k l hl, td_at s k g1, hek, spl_upto _ h4]
          have : td (s.extract l k) = ((td s).drop l).take (k - l) := Lib.extract_data s l k
          simp only [List.map_cons, List.map_nil, List.cons_append, List.nil_append, this]
        obtain ⟨N, hN⟩ : ∃ N, X.length + 1 = N := ⟨_, rfl⟩
        obtain ⟨A7, c7, W7, hrun7, hO7⟩ := h1.push (s.extract l k) N hN (by omega)
        have HR7 := Lib.hid hrun7
        have HO7 : Hid (SplX s w (.slice A7 N c7) (k + 1) (k + 1) W7) := Lib.hid ⟨X ++ [s.extract l k], hO7, by rw [List.length_append]; simp; omega, h5, fun c hc => by simp at hc⟩
        clear hrun7 hO7 h1 h2 h3 h4 h5 hN hek
        go_wp2_with (at_builtin; refine wpList_append_run rfl rfl (by simp [Region.wanted]) rfl rfl HR7.out ?_)
        go_roundw
        case rel => exact ⟨k + 1, k + 1, by omega, by omega, by go_num, by go_num, HO7.out⟩
        case measure => simp [intOf]; omega
    · obtain ⟨X, h1, h2, h3, h4⟩ := HT.out
      have hks : k = s.size := by omega
      have h5 : (X ++ [s.extract l s.size]).map td = spl (td s) := by
        have hall : ((td s).drop l).take (k - l) = (td s).drop l := List.take_of_length_le (by rw [List.length_drop, HSL.out]; omega)
        rw [hall] at h4
        rw [← h3, List.map_append, spl_last h4]
        congr 1
        have : td (s.extract l s.size) = ((td s).drop l).take (s.size - l) := Lib.extract_data s l s.size
        rw [hks] at hall
        simp only [List.map_cons, List.map_nil, this, hall]
      obtain ⟨N, hN⟩ : ∃ N, X.length + 1 = N := ⟨_, rfl⟩
      obtain ⟨A7, c7, W7, hrun7, hO7⟩ := h1.push (s.extract l s.size) N hN (by omega)
      have HR7 := Lib.hid hrun7
      have HO7 : Hid (PartsX s w (.returned (.slice A7 N c7)) W7) := Lib.hid ⟨A7, c7, X ++ [s.extract l s.size], by rw [List.length_append, List.length_singleton, hN], Strs.of_own (by have := hO7.1; rw [List.length_append, List.length_singleton] at this ⊢; rw [hN] at this ⊢; exact this), h5, by rw [List.length_append]; simp; omega, hO7.2⟩
      clear hrun7 hO7 h1 h2 h3 h4 h5 hN hks
      go_wp2_with (at_builtin; refine wpList_append_run rfl rfl (by simp [Region.wanted]) rfl rfl HR7.out ?_)
      go_ret
      exact HO7.out

theorem pcs_step {X Y : List ByteArray} {k : Nat} (h1 : k < X.length) (h2 : k < Y.length) : pcs ((X.drop k).map td) ((Y.drop k).map td) = if td X[k] = td Y[k] then pcs ((X.drop (k + 1)).map td) ((Y.drop (k + 1)).map td) else lcmp (td X[k]) (td Y[k]) := by
  rw [List.drop_eq_getElem_cons h1, List.drop_eq_getElem_cons h2, List.map_cons, List.map_cons, pcs]

set_option maxHeartbeats 4000000 in
set_option maxRecDepth 100000 in
theorem compare_exact (s t : ByteArray) (w : World) (hs : s.size ≤ 1048576) (ht : t.size ≤ 1048576) : Calls Try.prog 19 #[.string s, .string t] w fun e w' => e = .returned (.int .i64 (pcmp (td s) (td t))) ∧ Below w.heap.size w w' := by
  go_enter Try.func19, Try.ntmps19
  go_wp2_with fail
  refine (split_exact s _ hs).mono ?_
  rintro e w1 ⟨A, c, X, rfl, hX, hx0, hl, hB⟩
  have HX0 := Lib.hid hx0
  have HB := Lib.hid hB
  clear hB hx0
  go_wp2_with fail
  refine (split_exact t _ ht).mono ?_
  rintro e w2 ⟨A2, c2, Y, rfl, hY, hy0, hl2, hB2⟩
  have HE : Hid (pcs (X.map td) (Y.map td) = pcmp (td s) (td t)) := Lib.hid (by rw [HX0.out, hy0, pcs_spl])
  have hX2 := hX.below hB2
  have HB2 := Lib.hid (HB.out.trans (hB2.mono HB.out.size))
  clear hB2 hX hy0
  go_wp2_with fail
  go_loopw [7] (fun i wr => ∃ k : Nat, k ≤ X.length ∧ k ≤ Y.length ∧ i = .int .i64 k ∧ Drew w2 wr ∧ Hid (pcs ((X.drop k).map td) ((Y.drop k).map td) = pcmp (td s) (td t))) (fun i _ => X.length - (intOf i).toNat)
  case atStart => exact ⟨0, Nat.zero_le _, Nat.zero_le _, rfl, Drew.refl _, HE⟩
  case round =>
    obtain ⟨k, hk, hk2, rfl, ⟨n, rfl⟩, HK⟩ := hrel
    clear HE
    by_cases g1 : k < X.length
    · by_cases g2 : k < Y.length
      · have HS := Lib.hid (pcs_step g1 g2)
        obtain ⟨a, rfl, hab, hca0⟩ := hX2.at_ g1
        obtain ⟨x, hx⟩ : ∃ x, x = X[k] := ⟨_, rfl⟩
        have hca : w2.cell? (a.add k) = some (.string x) := by rw [hx]; exact hca0
        obtain ⟨b, rfl, hbb, hcb0⟩ := hY.at_ g2
        obtain ⟨y, hy⟩ : ∃ y, y = Y[k] := ⟨_, rfl⟩
        have hcb : w2.cell? (b.add k) = some (.string y) := by rw [hy]; exact hcb0
        rw [← hx, ← hy] at HS
        clear hca0 hx hcb0 hy
        rcases lcmp_val (td x) (td y) with hv | hv | hv
        · have f1 : Op.bytesLess x.toList y.toList = true := by
            rw [Lib.toList_data, Lib.toList_data, less_is]
            exact decide_eq_true hv
          have hne : ¬ td x = td y := fun e => by rw [e, lcmp_self] at hv; omega
          have HR : Hid (pcmp (td s) (td t) = -1) := Lib.hid (by rw [← HK.out, HS.out, if_neg hne, hv])
          clear hv hne HS
          go_wp2_with fail
          go_quiet (fail)
          go_wp2_with fail
          go_ret
          exact ⟨ret_int HR.out.symm, by rw [World.drewN_drewN]; exact below_drewN HB2.out _⟩
        · have hxy := lcmp_zero hv
          have hyx := td_inj hxy
          subst hyx
          have f1 : Op.bytesLess x.toList x.toList = false := by
            rw [Lib.toList_data, less_is, show lcmp x.data.toList x.data.toList = 0 from lcmp_self _]; rfl
          have f2 : (x.toList == x.toList) = true := by simp
          have HK2 : Hid (pcs ((X.drop (k + 1)).map td) ((Y.drop (k + 1)).map td) = pcmp (td s) (td t)) := Lib.hid (by rw [← HK.out, HS.out, if_pos rfl])
          clear hv hxy HS HK
          go_wp2_with fail
          go_quiet (fail)
          go_wp2_with fail
          go_quiet (fail)
          go_wp2_with fail
          go_roundw
          case rel => exact ⟨k + 1, by omega, by omega, by go_num, ⟨_, rfl⟩, HK2⟩
          case measure => simp [intOf]; omega
        · have f1 : Op.bytesLess x.toList y.toList = false := by
            rw [Lib.toList_data, Lib.toList_data, less_is]
            exact decide_eq_false (by show ¬ lcmp (td x) (td y) = -1; omega)
          have hne : ¬ td x = td y := fun e => by rw [e, lcmp_self] at hv; omega
          have f2 : (x.toList == y.toList) = false := by
            rw [Lib.toList_data, Lib.toList_data, beq_eq_false_iff_ne]; exact hne
          have HR : Hid (pcmp (td s) (td t) = 1) := Lib.hid (by rw [← HK.out, HS.out, if_neg hne, hv])
          clear hv hne HS
          go_wp2_with fail
          go_quiet (fail)
          go_wp2_with fail
          go_quiet (fail)
          go_wp2_with fail
          go_ret
          exact ⟨ret_int HR.out.symm, by rw [World.drewN_drewN, World.drewN_drewN]; exact below_drewN HB2.out _⟩
      · have hky : k = Y.length := by omega
        have HR : Hid (pcmp (td s) (td t) = 1) := Lib.hid (by
          rw [← HK.out, hky, List.drop_length, List.drop_eq_getElem_cons (by omega)]; rfl)
        have g3 : (Y.length : Int) < (X.length : Int) := by omega
        have g4 : ¬ (X.length : Int) < (Y.length : Int) := by omega
        clear hky
        go_wp2_with fail
        go_ret
        exact ⟨ret_int HR.out.symm, below_drewN HB2.out _⟩
    · have hkx : k = X.length := by omega
      by_cases g2 : k < Y.length
      · have HR : Hid (pcmp (td s) (td t) = -1) := Lib.hid (by
          rw [← HK.out, hkx, List.drop_length, List.drop_eq_getElem_cons (by omega)]; rfl)
        have g3 : (X.length : Int) < (Y.length : Int) := by omega
        clear hkx
        go_wp2_with fail
        go_ret
        exact ⟨ret_int HR.out.symm, below_drewN HB2.out _⟩
      · have hky : k = Y.length := by omega
        have HR : Hid (pcmp (td s) (td t) = 0) := Lib.hid (by
          rw [← HK.out]
          conv => lhs; rw [hkx, List.drop_length]
          rw [← hkx, hky, List.drop_length]; rfl)
        have g3 : ¬ (X.length : Int) < (Y.length : Int) := by omega
        have g4 : ¬ (Y.length : Int) < (X.length : Int) := by omega
        clear hkx hky
        go_wp2_with fail
        go_ret
        exact ⟨ret_int HR.out.symm, below_drewN HB2.out _⟩

end Go.Proofs.Ytdnckhagknlfhaa
