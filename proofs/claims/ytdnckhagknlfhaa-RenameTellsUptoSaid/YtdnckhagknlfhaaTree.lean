/-
  collatorlaw02.Tree: of raw items, a tree. Nothing that was there is changed.
-/
import Derived.Test.YtdnckhagknlfhaaMore
import Derived.Test.YtdnckhagknlfhaaItem
import Derived.Test.YtdnckhagknlfhaaItsMore
import Derived.Test.YtdnckhagknlfhaaRefG
namespace Go.Proofs.Ytdnckhagknlfhaa
open Go.RowKit

structure TrIn (w wr : World) (A1 : Option Addr) (L : List It) : Prop where
  at_ : ItemsAt wr A1 L
  ok : TreeOk L
  below : Below w.heap.size w wr
/-- small enough for a tree -/
def Fits (M : List It) : Prop := ∀ it ∈ M, it.path.size ≤ 200 ∧ it.data.size ≤ 60
theorem lens_take {X : List ByteArray} {k : Nat} {x : ByteArray} (h : X[k]? = some x) : lens (X.take (k + 1)) = lens (X.take k) + (x.size + 1) := by
  obtain ⟨hk, rfl⟩ := List.getElem?_eq_some_iff.1 h
  rw [List.take_succ_eq_append_getElem hk, lens_snoc]
theorem lens_append (X Y : List ByteArray) : lens (X ++ Y) = lens X + lens Y := by simp [lens]
theorem lens_take_le (X : List ByteArray) (k : Nat) : lens (X.take k) ≤ lens X := by
  have := lens_append (X.take k) (X.drop k)
  rw [List.take_append_drop] at this
  omega
theorem TrIn.next {w wr w' : World} {A1 : Option Addr} {L : List It} (h : TrIn w wr A1 L) (hb : Below wr.heap.size wr w') : TrIn w w' A1 L := ⟨h.at_.up hb, h.ok, h.below.trans (hb.mono h.below.size)⟩
theorem Fits.snoc {M : List It} (h : Fits M) {it : It} (h1 : it.path.size ≤ 200) (h2 : it.data.size ≤ 60) : Fits (M ++ [it]) := fun x hx => by
  rcases List.mem_append.1 hx with hx | hx
  · exact h x hx
  · have : x = it := by simpa using hx
    subst this
    exact ⟨h1, h2⟩

def TreeCap (w : World) (e : Ending) (w' : World) : Prop := ∃ (A : Option Addr) (c : Nat) (its : List It), e = .returned (.slice A its.length c) ∧ ItemsAt w' A its ∧ TreeOk its ∧ Below w.heap.size w w' ∧ its.length ≤ c

set_option maxHeartbeats 20000000 in
set_option maxRecDepth 100000 in
theorem tree_cap (A : Option Addr) (rs : List RawI) (n c : Nat) (w : World) (ha : RawsAt w A rs) (hn : rs.length = n) (h1 : n ≤ 140737488355328) :
    Calls Try.prog 15 #[.slice A n c] w (TreeCap w) := by
  subst hn
  have HA := Lib.hid ha
  clear ha
  go_enter Try.func15, Try.ntmps15
  go_wp2_with fail
  go_loopw [3, 4] (fun t i wr => ∃ (k : Nat) (L : List It) (A1 : Option Addr) (c1 : Nat), k ≤ rs.length ∧ k ≤ 14 ∧ i = .int .i64 k ∧ t = .slice A1 L.length c1 ∧ TrIn w wr A1 L ∧ L.length ≤ c1) (fun _ i _ => 14 - (intOf i).toNat)
  case atStart => exact ⟨0, [], none, 0, Nat.zero_le _, Nat.zero_le _, rfl, rfl, ⟨fun h => absurd rfl h, ⟨Nat.zero_le _, fun _ h => (by cases h), fun _ h => (by cases h), fun _ h => (by cases h)⟩, Below.refl _ _⟩, Nat.le_refl _⟩
  case round =>
    obtain ⟨k, L, A1, c1, hk, hk14, rfl, rfl, hT, hcap⟩ := hrel
    have HT := Lib.hid hT
    have hLl : L.length ≤ 200 := hT.ok.few
    clear hT
    by_cases g1 : k < rs.length
    · by_cases g2 : k < 14
      · obtain ⟨x, hx⟩ : ∃ x, rs[k]? = some x := ⟨_, List.getElem?_eq_getElem g1⟩
        obtain ⟨a, rfl, hal, c0, c1', c2, c3, hok⟩ := (HA.out.up HT.out.below) k x hx
        have HOK := Lib.hid hok
        clear hx hok
        go_wp2_with fail
        refine (item_any x _ HOK.out).mono ?_
        rintro e w1 ⟨⟨it, rfl, hsm⟩, hB1⟩
        obtain ⟨s1, s2⟩ := hsm
        have HB1 := Lib.hid hB1
        clear hB1 c0 c1' c2 c3 hal
        go_wp2_with fail
        have hbx := Blk.new w1 33 #[.string it.path, .int .i64 it.kind, .string it.data, .bool false]
        have hal1 : Below w1.heap.size w1 (w1.alloc (.cells #[.string it.path, .int .i64 it.kind, .string it.data, .bool false] 33)) := (Below.refl _ _).alloc (Nat.le_refl _) _
        obtain ⟨g, hg⟩ : ∃ g, g = w1.heap.size := ⟨_, rfl⟩
        obtain ⟨W1, hW1⟩ : ∃ W1, W1 = w1.alloc (.cells #[.string it.path, .int .i64 it.kind, .string it.data, .bool false] 33) := ⟨_, rfl⟩
        rw [← hW1] at hbx hal1 ⊢
        rw [← hg] at hbx ⊢
        have HBX := Lib.hid hbx
        have HT1 : Hid (TrIn w W1 A1 L) := Lib.hid ⟨(HT.out.at_.up HB1.out).up hal1, HT.out.ok, HT.out.below.trans ((HB1.out.trans (hal1.mono HB1.out.size)).mono HT.out.below.size)⟩
        clear hbx hal1 hg hW1 HB1
        refine (parts_any it.path _ (by omega)).mono ?_
        rintro e w2 ⟨Al, cl, X, rfl, hX, hl, hm, hB2⟩
        have hbx2 := HBX.out.below hB2 HBX.out.lt
        have HBX2 := Lib.hid hbx2
        have HM := Lib.hid hm
        have HT2 : Hid (TrIn w w2 A1 L) := Lib.hid ⟨HT1.out.at_.up hB2, HT1.out.ok, HT1.out.below.trans (hB2.mono HT1.out.below.size)⟩
        have HX := Lib.hid hX
        obtain ⟨A3, c3, w3, hrun3, hO3⟩ := copy_items L.length c1 HT2.out.at_ rfl (by omega)
        have HR3 := Lib.hid hrun3
        have HO3 := Lib.hid hO3
        have HF0 : Hid (Fits L) := Lib.hid (fun it hi => ⟨HT2.out.ok.path it hi, HT2.out.ok.data it hi⟩)
        clear hbx2 hm hB2 hX hrun3 hO3 HBX HT1
        go_wp2_with (at_builtin; refine wpList_append_run rfl rfl (by simp [Region.wanted]) rfl rfl HR3.out ?_)
        go_loopw [7, 8, 9] (fun v p i wy => ∃ (j : Nat) (M : List It) (Av : Option Addr) (cv : Nat) (q : ByteArray), j ≤ X.length ∧ i = .int .i64 j ∧ v = .slice Av M.length cv ∧ p = .string q ∧ q.size ≤ lens (X.take j) ∧ OwnI w2 wy (.slice Av M.length cv) M ∧ M.length ≤ L.length + j ∧ Fits M) (fun _ _ i _ => X.length - (intOf i).toNat)
        case atStart => exact ⟨0, L, A3, c3, ⟨#[]⟩, Nat.zero_le _, rfl, rfl, rfl, Nat.zero_le _, HO3.out, by omega, HF0.out⟩
        case round =>
          obtain ⟨j, M, Av, cv, q, hj, rfl, rfl, rfl, hq, hO, hMl, hF⟩ := hrel
          have HO := Lib.hid hO
          have HF := Lib.hid hF
          clear hO hF HO3 HR3 HF0
          have hMit := ItemsAt.of_own HO.out.1 rfl
          by_cases g3 : j + 1 < X.length
          · have g3' : j < X.length := by omega
            obtain ⟨b, rfl, hbb, hcb0⟩ := (HX.out.below HO.out.2).at_ g3'
            obtain ⟨y, hy⟩ : ∃ y, X[j]? = some y := ⟨_, List.getElem?_eq_getElem g3'⟩
            have hyj : X[j] = y := by rw [List.getElem?_eq_getElem g3'] at hy; injection hy
            have hcb : wr.cell? (b.add j) = some (.string y) := by rw [← hyj]; exact hcb0
            have hys := HM.out.1 y (List.mem_of_getElem? hy)
            have hls := lens_take hy
            have hle := lens_take_le X (j + 1)
            have hl2 := HM.out.2
            clear hcb0 hyj hy
            go_wp2_with fail
            refine (join_any q y _ (by omega) (by omega)).mono ?_
            rintro e w4 ⟨⟨q', rfl, hq'⟩, rfl⟩
            go_wp2_with fail
            refine (find_any Av M M.length cv q' _ hMit rfl (by omega)).mono ?_
            rintro e w4 ⟨hfind, hB4⟩
            have HB4 := Lib.hid hB4
            clear hB4
            rcases hfind with ⟨-, it', -, -, -, rfl⟩ | ⟨-, rfl⟩
            · unfold It.cells
              have hal4 : Below w4.heap.size w4 (w4.alloc (.cells #[.string it'.path, .int .i64 it'.kind, .string it'.data, .bool it'.bad] 33)) := (Below.refl _ _).alloc (Nat.le_refl _) _
              have HO4 := Lib.hid ((HO.out.up HB4.out).up hal4)
              clear hal4
              go_wp2_with fail
              go_roundw
              case rel => exact ⟨j + 1, M, Av, cv, q', by omega, by go_num, rfl, rfl, by omega, HO4.out, by omega, HF.out⟩
              case measure => simp [intOf]; omega
            · have hal4 : Below w4.heap.size w4 (w4.alloc (.cells #[.string ⟨#[]⟩, .int .i64 0, .string ⟨#[]⟩, .bool false] 33)) := (Below.refl _ _).alloc (Nat.le_refl _) _
              obtain ⟨N, hN⟩ : ∃ N, M.length + 1 = N := ⟨_, rfl⟩
              obtain ⟨A7, c7, W7, hrun7, hO7, _⟩ := ((HO.out.up HB4.out).up hal4).push ⟨q', 1, ⟨#[]⟩, false⟩ N hN (by omega)
              have hNe : (M ++ [(⟨q', 1, ⟨#[]⟩, false⟩ : It)]).length = N := by rw [List.length_append]; exact hN
              have HNE := Lib.hid hNe
              dsimp only at hrun7
              have hsz4 : (w4.alloc (.cells #[.string ⟨#[]⟩, .int .i64 0, .string ⟨#[]⟩, .bool false] 33)).heap.size = w4.heap.size + 1 := by simp
              rw [hsz4] at hrun7
              have HR7 := Lib.hid hrun7
              have HO7 := Lib.hid hO7
              clear hrun7 hO7 hal4 hNe hsz4
              go_wp2_with (at_builtin; refine wpList_append_run rfl rfl (by simp [Region.wanted]) rfl rfl HR7.out ?_)
              go_roundw
              case rel => exact ⟨j + 1, M ++ [⟨q', 1, ⟨#[]⟩, false⟩], A7, c7, q', by omega, by go_num, by rw [HNE.out], rfl, by omega, by rw [HNE.out]; exact HO7.out, by rw [HNE.out]; omega, HF.out.snoc (it := ⟨q', 1, ⟨#[]⟩, false⟩) (by show q'.size ≤ 200; omega) (Nat.zero_le 60)⟩
              case measure => simp [intOf]; omega
          · have hbxy := HBX2.out.below HO.out.2 HBX2.out.lt
            have q0 : wr.cell? ⟨g, 0, none⟩ = some (.string it.path) := hbxy.cell 0
            have q1 : wr.cell? ⟨g, 1, none⟩ = some (.int .i64 it.kind) := hbxy.cell 1
            have q2 : wr.cell? ⟨g, 2, none⟩ = some (.string it.data) := hbxy.cell 2
            have q3 : wr.cell? ⟨g, 3, none⟩ = some (.bool false) := hbxy.cell 3
            obtain ⟨N, hN⟩ : ∃ N, M.length + 1 = N := ⟨_, rfl⟩
            obtain ⟨A7, c7, W7, hrun7, hO7, _⟩ := HO.out.push ⟨it.path, it.kind, it.data, false⟩ N hN (by omega)
            have hNe : (M ++ [(⟨it.path, it.kind, it.data, false⟩ : It)]).length = N := by rw [List.length_append]; exact hN
            have HNE := Lib.hid hNe
            dsimp only at hrun7
            have HR7 := Lib.hid hrun7
            have HO7 := Lib.hid hO7
            have hNl : N ≤ 400 := by omega
            have HF7 : Hid (Fits (M ++ [(⟨it.path, it.kind, it.data, false⟩ : It)])) := Lib.hid (HF.out.snoc (by show it.path.size ≤ 200; omega) s2)
            obtain ⟨K, hK⟩ : ∃ K : List It, K = M ++ [⟨it.path, it.kind, it.data, false⟩] := ⟨_, rfl⟩
            rw [← hK] at HNE HO7 HF7
            clear hrun7 hO7 hbxy hNe hK hN hMit
            go_wp2_with (at_builtin; refine wpList_append_run rfl rfl (by simp [Region.wanted]) rfl rfl HR7.out ?_)
            refine (wide_any _).mono ?_
            rintro e w8 ⟨rfl, hB8⟩
            have HB8 := Lib.hid hB8
            clear hB8 q0 q1 q2 q3
            have HK7 : Hid (ItemsAt w8 A7 K) := Lib.hid ((ItemsAt.of_own (by have h := HO7.out.1; rw [HNE.out] at h; exact h) HNE.out).up HB8.out)
            go_wp2_with fail
            refine (check2_any A7 K N c7 _ HK7.out HNE.out (by omega) (fun z hz => (HF7.out z hz).1)).mono ?_
            rintro e w9 ⟨⟨z, r, r1, r2, rfl, hz⟩, hB9⟩
            have HZ := Lib.hid hz
            have HB9 := Lib.hid hB9
            have HT9 : Hid (TrIn w w9 A1 L) := Lib.hid (((HT2.out.next HO7.out.2).next HB8.out).next HB9.out)
            clear hz hB9
            have hfd : (Instr.field 64 (.agg #[.string z, .int .i64 r]) 1).run Try.prog w9 = .ok (.int .i64 r) w9 := by kernel_rfl
            cases gz : ((r == 0) : Bool) with
            | false =>
              go_wp2_with fail
              go_roundw
              case rel => exact ⟨k + 1, L, A1, c1, by omega, by omega, by go_num, rfl, HT9.out, hcap⟩
              case measure => simp [intOf]; omega
            | true =>
              have HOKK : Hid (TreeOk K) := Lib.hid (by
                have h := HZ.out (by simpa using gz)
                exact ⟨h.1, fun i hi => (HF7.out i hi).1, fun i hi => (HF7.out i hi).2, h.2⟩)
              go_wp2_with fail
              go_roundw
              case rel => exact ⟨k + 1, K, A7, c7, by omega, by omega, by go_num, by rw [HNE.out], ⟨HK7.out.up HB9.out, HOKK.out, HT9.out.below⟩, HO7.out.cap⟩
              case measure => simp [intOf]; omega
      · go_wp2_with fail
        go_ret
        exact ⟨A1, c1, L, rfl, HT.out.at_, HT.out.ok, HT.out.below, hcap⟩
    · go_wp2_with fail
      go_ret
      exact ⟨A1, c1, L, rfl, HT.out.at_, HT.out.ok, HT.out.below, hcap⟩

theorem tree_any (A : Option Addr) (rs : List RawI) (n c : Nat) (w : World) (ha : RawsAt w A rs) (hn : rs.length = n) (h1 : n ≤ 140737488355328) :
    Calls Try.prog 15 #[.slice A n c] w (TreeTold w) :=
  (tree_cap A rs n c w ha hn h1).mono fun _ _ ⟨A1, c1, its, he, hi, ho, hb, _⟩ => ⟨A1, c1, its, he, hi, ho, hb⟩

end Go.Proofs.Ytdnckhagknlfhaa
