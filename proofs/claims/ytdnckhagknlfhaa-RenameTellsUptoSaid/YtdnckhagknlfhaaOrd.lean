/-
  The order of paths: plain mathematics of paths.Compare (pcmp), and the contracts of cmp.Compare, paths.rank and paths.Compare.
-/
import Derived.Test.YtdnckhagknlfhaaMem
import Derived.IntWalk
namespace Go.Proofs.Ytdnckhagknlfhaa
open Go.RowKit

/-- a slash stands ahead of every other byte -/
def rk (c : UInt8) : Int := if c = 47 then -1 else (c.toNat : Int)
theorem rk_inj {c d : UInt8} (h : rk c = rk d) : c = d := by
  unfold rk at h
  by_cases h1 : c = 47 <;> by_cases h2 : d = 47
  · rw [h1, h2]
  · rw [if_pos h1, if_neg h2] at h; omega
  · rw [if_neg h1, if_pos h2] at h; omega
  · rw [if_neg h1, if_neg h2] at h
    exact UInt8.toNat_inj.1 (by omega)
def cmpI (x y : Int) : Int := if x < y then -1 else if y < x then 1 else 0
theorem cmpI_neg (x y : Int) : cmpI x y < 0 ↔ x < y := by
  unfold cmpI
  by_cases h1 : x < y
  · rw [if_pos h1]; omega
  · rw [if_neg h1]
    by_cases h2 : y < x
    · rw [if_pos h2]; omega
    · rw [if_neg h2]; omega
theorem cmpI_turn (x y : Int) : cmpI y x = - cmpI x y := by
  unfold cmpI
  by_cases h1 : x < y
  · rw [if_pos h1, if_neg (by omega), if_pos h1]; rfl
  · rw [if_neg h1]
    by_cases h2 : y < x
    · rw [if_pos h2, if_pos h2, if_neg h1]
    · rw [if_neg h2, if_neg h2, if_neg h1]; rfl
theorem cmpI_val (x y : Int) : cmpI x y = -1 ∨ cmpI x y = 0 ∨ cmpI x y = 1 := by
  unfold cmpI
  split
  · exact .inl rfl
  · split
    · exact .inr (.inr rfl)
    · exact .inr (.inl rfl)
theorem cmpI_zero {x y : Int} (h : cmpI x y = 0) : x = y := by
  unfold cmpI at h
  by_cases h1 : x < y
  · rw [if_pos h1] at h; omega
  · rw [if_neg h1] at h
    by_cases h2 : y < x
    · rw [if_pos h2] at h; omega
    · omega
theorem cmpI_self (x : Int) : cmpI x x = 0 := by simp [cmpI]
/-- which one of two texts is less -/
def pcmp : List UInt8 → List UInt8 → Int
  | [], [] => 0
  | [], _ :: _ => -1
  | _ :: _, [] => 1
  | a :: s, b :: t => if a = b then pcmp s t else cmpI (rk a) (rk b)
theorem pcmp_self : ∀ s, pcmp s s = 0
  | [] => rfl
  | a :: s => by rw [pcmp, if_pos rfl, pcmp_self s]
theorem pcmp_val : ∀ s t, pcmp s t = -1 ∨ pcmp s t = 0 ∨ pcmp s t = 1
  | [], [] => .inr (.inl rfl)
  | [], _ :: _ => .inl rfl
  | _ :: _, [] => .inr (.inr rfl)
  | a :: s, b :: t => by
    rw [pcmp]
    split
    · exact pcmp_val s t
    · exact cmpI_val _ _
theorem pcmp_zero : ∀ {s t}, pcmp s t = 0 → s = t
  | [], [], _ => rfl
  | [], _ :: _, h => by simp [pcmp] at h
  | _ :: _, [], h => by simp [pcmp] at h
  | a :: s, b :: t, h => by
    rw [pcmp] at h
    by_cases e : a = b
    · rw [if_pos e] at h; rw [e, pcmp_zero h]
    · rw [if_neg e] at h
      exact absurd (rk_inj (cmpI_zero h)) e
theorem pcmp_turn : ∀ s t, pcmp t s = - pcmp s t
  | [], [] => rfl
  | [], _ :: _ => rfl
  | _ :: _, [] => rfl
  | a :: s, b :: t => by
    rw [pcmp, pcmp]
    by_cases e : a = b
    · rw [if_pos e, if_pos e.symm, pcmp_turn s t]
    · rw [if_neg e, if_neg (fun h => e h.symm)]
      exact cmpI_turn _ _
theorem pcmp_trans : ∀ {s t u}, pcmp s t < 0 → pcmp t u < 0 → pcmp s u < 0
  | [], [], _, h, _ => by simp [pcmp] at h
  | _ :: _, [], _, h, _ => by simp [pcmp] at h
  | [], _ :: _, [], _, h => by simp [pcmp] at h
  | [], _ :: _, _ :: _, _, _ => by simp [pcmp]
  | _ :: _, _ :: _, [], _, h => by simp [pcmp] at h
  | a :: s, b :: t, c :: u, h1, h2 => by
    rw [pcmp] at h1 h2 ⊢
    have hc : ∀ x y : Int, cmpI x y < 0 ↔ x < y := cmpI_neg
    by_cases e1 : a = b
    · rw [if_pos e1] at h1
      by_cases e2 : b = c
      · rw [if_pos e2] at h2
        rw [if_pos (e1.trans e2)]
        exact pcmp_trans h1 h2
      · rw [if_neg e2] at h2
        rw [if_neg (by rw [e1]; exact e2), e1]
        exact h2
    · rw [if_neg e1, hc] at h1
      by_cases e2 : b = c
      · rw [if_neg (by rw [← e2]; exact e1), ← e2, hc]
        exact h1
      · rw [if_neg e2, hc] at h2
        by_cases e3 : a = c
        · subst e3; omega
        · rw [if_neg e3, hc]; omega
/-- of two paths the one is less -/
def plt (a b : ByteArray) : Prop := pcmp a.data.toList b.data.toList < 0
instance (a b : ByteArray) : Decidable (plt a b) := by unfold plt; infer_instance
theorem data_inj {a b : ByteArray} (h : a.data.toList = b.data.toList) : a = b := by
  cases a with
  | mk da =>
    cases b with
    | mk db => simp only at h; rw [Array.ext' h]
theorem plt_irrefl (a : ByteArray) : ¬ plt a a := by unfold plt; rw [pcmp_self]; omega
theorem plt_trans {a b c : ByteArray} (h1 : plt a b) (h2 : plt b c) : plt a c := pcmp_trans h1 h2
theorem plt_total (a b : ByteArray) : plt a b ∨ a = b ∨ plt b a := by
  unfold plt
  rcases pcmp_val a.data.toList b.data.toList with h | h | h
  · exact .inl (by omega)
  · exact .inr (.inl (data_inj (pcmp_zero h)))
  · exact .inr (.inr (by rw [pcmp_turn]; omega))
theorem plt_asymm {a b : ByteArray} (h : plt a b) : ¬ plt b a := fun h' => plt_irrefl a (plt_trans h h')

set_option maxHeartbeats 400000 in
theorem isNaN_any (x : Int) (w : World) : Calls Try.prog 61 #[.int .i64 x] w fun e w' => e = .returned (.bool false) ∧ w = w' := by
  go_enter Try.func61, Try.ntmps61
  go_wp2
  go_ret
  exact ⟨rfl, rfl⟩
set_option maxHeartbeats 1000000 in
theorem cmpCompare_any (x y : Int) (w : World) : Calls Try.prog 45 #[.int .i64 x, .int .i64 y] w fun e w' => e = .returned (.int .i64 (cmpI x y)) ∧ w = w' := by
  by_cases h1 : x < y
  · have H : Hid (cmpI x y = -1) := Lib.hid (by unfold cmpI; rw [if_pos h1])
    go_enter Try.func45, Try.ntmps45
    go_wp2_with (go_at_call 61; refine (isNaN_any _ _).mono ?_; rintro e w' ⟨rfl, rfl⟩)
    go_ret
    exact ⟨ret_int (by rw [H.out]), rfl⟩
  · by_cases h2 : y < x
    · have H : Hid (cmpI x y = 1) := Lib.hid (by unfold cmpI; rw [if_neg h1, if_pos h2])
      go_enter Try.func45, Try.ntmps45
      go_wp2_with (go_at_call 61; refine (isNaN_any _ _).mono ?_; rintro e w' ⟨rfl, rfl⟩)
      go_ret
      exact ⟨ret_int (by rw [H.out]), rfl⟩
    · have H : Hid (cmpI x y = 0) := Lib.hid (by unfold cmpI; rw [if_neg h1, if_neg h2])
      go_enter Try.func45, Try.ntmps45
      go_wp2_with (go_at_call 61; refine (isNaN_any _ _).mono ?_; rintro e w' ⟨rfl, rfl⟩)
      go_ret
      exact ⟨ret_int (by rw [H.out]), rfl⟩
set_option maxHeartbeats 400000 in
theorem rank_any (c : UInt8) (w : World) : Calls Try.prog 60 #[.int .u8 (c.toNat : Int)] w fun e w' => e = .returned (.int .i64 (rk c)) ∧ w = w' := by
  have hc : c.toNat < 256 := UInt8.toNat_lt c
  have e47 : (((⟨#[47]⟩ : ByteArray)[0]'(by decide)).toNat : Int) = 47 := rfl
  by_cases h : c = 47
  · subst h
    go_enter Try.func60, Try.ntmps60
    go_wp2
    go_ret
    exact ⟨rfl, rfl⟩
  · have h1 : ((c.toNat : Int) == 47) = false := by
      rw [beq_eq_false_iff_ne]
      intro e
      exact h (UInt8.toNat_inj.1 (by rw [show (47 : UInt8).toNat = 47 from rfl]; omega))
    have H : Hid (rk c = (c.toNat : Int)) := Lib.hid (by unfold rk; rw [if_neg h])
    clear h
    go_enter Try.func60, Try.ntmps60
    go_wp2
    go_ret
    exact ⟨ret_int (by rw [H.out]), rfl⟩

/-- both begin with the same bytes -/
theorem pcmp_drop {s t : List UInt8} {k : Nat} {c d : UInt8} (hs : s[k]? = some c) (ht : t[k]? = some d) : pcmp (s.drop k) (t.drop k) = if c = d then pcmp (s.drop (k + 1)) (t.drop (k + 1)) else cmpI (rk c) (rk d) := by
  obtain ⟨h1, e1⟩ := List.getElem?_eq_some_iff.1 hs
  obtain ⟨h2, e2⟩ := List.getElem?_eq_some_iff.1 ht
  rw [List.drop_eq_getElem_cons h1, List.drop_eq_getElem_cons h2, e1, e2, pcmp]
theorem pcmp_end {s t : List UInt8} {k : Nat} (hk : k = s.length ∨ k = t.length) (h1 : k ≤ s.length) (h2 : k ≤ t.length) : pcmp (s.drop k) (t.drop k) = cmpI (s.length : Int) (t.length : Int) := by
  unfold cmpI
  rcases hk with rfl | rfl
  · rw [List.drop_length]
    cases ht : t.drop s.length with
    | nil =>
      have : t.length ≤ s.length := List.drop_eq_nil_iff.1 ht
      rw [if_neg (by omega), if_neg (by omega)]; rfl
    | cons x xs =>
      have : (t.drop s.length).length = xs.length + 1 := by rw [ht]; rfl
      rw [List.length_drop] at this
      rw [if_pos (by omega)]; rfl
  · rw [List.drop_length]
    cases hs : s.drop t.length with
    | nil =>
      have : s.length ≤ t.length := List.drop_eq_nil_iff.1 hs
      rw [if_neg (by omega), if_neg (by omega)]; rfl
    | cons x xs =>
      have : (s.drop t.length).length = xs.length + 1 := by rw [hs]; rfl
      rw [List.length_drop] at this
      rw [if_neg (by omega), if_pos (by omega)]; rfl
theorem byte_at (s : ByteArray) (k : Nat) (h : k < s.size) : s.data.toList[k]? = some s[k] := by
  rw [List.getElem?_eq_getElem (by simpa using h)]; rfl

set_option maxHeartbeats 1000000 in
set_option maxRecDepth 100000 in
theorem compare_any (a b : ByteArray) (w : World) (ha : a.size ≤ maxLen) (hb : b.size ≤ maxLen) :
    Calls Try.prog 43 #[.string a, .string b] w fun e w' => e = .returned (.int .i64 (pcmp a.data.toList b.data.toList)) ∧ ∃ n, w' = w.drewN n := by
  unfold maxLen at ha hb
  obtain ⟨r, hr⟩ : ∃ r, r = pcmp a.data.toList b.data.toList := ⟨_, rfl⟩
  have HR : Hid (r = pcmp a.data.toList b.data.toList) := Lib.hid hr
  clear hr
  rcases Nat.lt_or_ge b.size a.size with hba | hba
  · have hi : (b.size : Int) < (a.size : Int) := by omega
    go_enter Try.func43, Try.ntmps43
    go_wp2_with fail
    go_loopw [11] (fun i wr => ∃ k : Nat, k ≤ b.size ∧ i = .int .i64 k ∧ pcmp (a.data.toList.drop k) (b.data.toList.drop k) = r ∧ ∃ n, wr = w.drewN n) (fun i _ => b.size - (intOf i).toNat)
    case atStart => exact ⟨0, Nat.zero_le _, rfl, HR.out.symm, 0, rfl⟩
    case round =>
      obtain ⟨k, hk, rfl, hp, n, rfl⟩ := hrel
      have HP := Lib.hid hp
      clear hp
      by_cases g1 : k < b.size
      · have ga : k < a.size := by omega
        have gb : k < b.size := by omega
        have HD := Lib.hid (pcmp_drop (byte_at a k ga) (byte_at b k gb))
        have ua := UInt8.toNat_lt a[k]
        have ub := UInt8.toNat_lt b[k]
        by_cases hcd : a[k] = b[k]
        · have HN : Hid (pcmp (a.data.toList.drop (k + 1)) (b.data.toList.drop (k + 1)) = r) := Lib.hid (by have := HD.out; rw [if_pos hcd] at this; rw [← this]; exact HP.out)
          have n1 : (((a[k].toNat : Int) == (b[k].toNat : Int)) : Bool) = true := by rw [hcd]; simp
          have n2 : (((a[k].toNat : Int) != (b[k].toNat : Int)) : Bool) = false := by rw [hcd]; simp
          clear hcd
          go_wp2_with fail
          go_quiet (fail)
          go_wp2_with fail
          go_roundw
          case rel => exact ⟨k + 1, by omega, by go_num, HN.out, n + nq, rfl⟩
          case measure => simp [intOf]; omega
        · have HN : Hid (cmpI (rk a[k]) (rk b[k]) = r) := Lib.hid (by have := HD.out; rw [if_neg hcd] at this; rw [← this]; exact HP.out)
          have hne : (a[k].toNat : Int) ≠ (b[k].toNat : Int) := fun e => hcd (UInt8.toNat_inj.1 (by omega))
          have n1 : (((a[k].toNat : Int) == (b[k].toNat : Int)) : Bool) = false := beq_eq_false_iff_ne.2 hne
          have n2 : (((a[k].toNat : Int) != (b[k].toNat : Int)) : Bool) = true := bne_iff_ne.2 hne
          clear hcd hne
          go_wp2_with fail
          go_quiet (fail)
          go_wp2_with fail
          go_quiet ((first | (go_at_call 60; exact (rank_any _ _).mono fun _ _ ⟨he, hw⟩ => ⟨he, _, hw.symm⟩) | (go_at_call 45; exact (cmpCompare_any _ _ _).mono fun _ _ ⟨he, hw⟩ => ⟨he, _, hw.symm⟩)))
          go_wp2_with fail
          go_ret
          exact ⟨ret_int (by rw [HN.out, HR.out]), _, by rw [World.drewN_drewN, World.drewN_drewN]⟩
      · have HE := Lib.hid (pcmp_end (s := a.data.toList) (t := b.data.toList) (k := k) (by have h2 : a.data.toList.length = a.size := rfl; have h3 : b.data.toList.length = b.size := rfl; omega) (by simp; omega) (by simp; omega))
        go_wp2_with (go_at_call 45; refine (cmpCompare_any _ _ _).mono ?_; rintro e w' ⟨rfl, rfl⟩)
        go_ret
        exact ⟨ret_int (by rw [← HR.out, ← HP.out, HE.out]; simp), n, rfl⟩
  · have hi : ¬ (b.size : Int) < (a.size : Int) := by omega
    go_enter Try.func43, Try.ntmps43
    go_wp2_with fail
    go_loopw [11] (fun i wr => ∃ k : Nat, k ≤ a.size ∧ i = .int .i64 k ∧ pcmp (a.data.toList.drop k) (b.data.toList.drop k) = r ∧ ∃ n, wr = w.drewN n) (fun i _ => a.size - (intOf i).toNat)
    case atStart => exact ⟨0, Nat.zero_le _, rfl, HR.out.symm, 0, rfl⟩
    case round =>
      obtain ⟨k, hk, rfl, hp, n, rfl⟩ := hrel
      have HP := Lib.hid hp
      clear hp
      by_cases g1 : k < a.size
      · have ga : k < a.size := by omega
        have gb : k < b.size := by omega
        have HD := Lib.hid (pcmp_drop (byte_at a k ga) (byte_at b k gb))
        have ua := UInt8.toNat_lt a[k]
        have ub := UInt8.toNat_lt b[k]
        by_cases hcd : a[k] = b[k]
        · have HN : Hid (pcmp (a.data.toList.drop (k + 1)) (b.data.toList.drop (k + 1)) = r) := Lib.hid (by have := HD.out; rw [if_pos hcd] at this; rw [← this]; exact HP.out)
          have n1 : (((a[k].toNat : Int) == (b[k].toNat : Int)) : Bool) = true := by rw [hcd]; simp
          have n2 : (((a[k].toNat : Int) != (b[k].toNat : Int)) : Bool) = false := by rw [hcd]; simp
          clear hcd
          go_wp2_with fail
          go_quiet (fail)
          go_wp2_with fail
          go_roundw
          case rel => exact ⟨k + 1, by omega, by go_num, HN.out, n + nq, rfl⟩
          case measure => simp [intOf]; omega
        · have HN : Hid (cmpI (rk a[k]) (rk b[k]) = r) := Lib.hid (by have := HD.out; rw [if_neg hcd] at this; rw [← this]; exact HP.out)
          have hne : (a[k].toNat : Int) ≠ (b[k].toNat : Int) := fun e => hcd (UInt8.toNat_inj.1 (by omega))
          have n1 : (((a[k].toNat : Int) == (b[k].toNat : Int)) : Bool) = false := beq_eq_false_iff_ne.2 hne
          have n2 : (((a[k].toNat : Int) != (b[k].toNat : Int)) : Bool) = true := bne_iff_ne.2 hne
          clear hcd hne
          go_wp2_with fail
          go_quiet (fail)
          go_wp2_with fail
          go_quiet ((first | (go_at_call 60; exact (rank_any _ _).mono fun _ _ ⟨he, hw⟩ => ⟨he, _, hw.symm⟩) | (go_at_call 45; exact (cmpCompare_any _ _ _).mono fun _ _ ⟨he, hw⟩ => ⟨he, _, hw.symm⟩)))
          go_wp2_with fail
          go_ret
          exact ⟨ret_int (by rw [HN.out, HR.out]), _, by rw [World.drewN_drewN, World.drewN_drewN]⟩
      · have HE := Lib.hid (pcmp_end (s := a.data.toList) (t := b.data.toList) (k := k) (by have h2 : a.data.toList.length = a.size := rfl; have h3 : b.data.toList.length = b.size := rfl; omega) (by simp; omega) (by simp; omega))
        go_wp2_with (go_at_call 45; refine (cmpCompare_any _ _ _).mono ?_; rintro e w' ⟨rfl, rfl⟩)
        go_ret
        exact ⟨ret_int (by rw [← HR.out, ← HP.out, HE.out]; simp), n, rfl⟩

end Go.Proofs.Ytdnckhagknlfhaa
