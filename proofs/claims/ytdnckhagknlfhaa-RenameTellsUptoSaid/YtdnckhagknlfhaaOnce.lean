/-
  collatorlaw08.RenameOnce: it returns true. Nothing that was there is changed.
-/
import Derived.Test.YtdnckhagknlfhaaTree
import Derived.Test.YtdnckhagknlfhaaOwn
import Derived.Test.YtdnckhagknlfhaaCmpx
import Derived.Deep.RegionHeld3
import Derived.Deep.DeepCutAuto
import Derived.Lib.MinMax
namespace Go.Proofs.Ytdnckhagknlfhaa
open Go.RowKit

theorem lines_fit {d : ByteArray} (h : d.size ≤ 60) : (linesOf d).length ≤ 1048576 ∧ ∀ s ∈ linesOf d, s.size ≤ maxLen := by
  have e : d.data.toList.length = d.size := rfl
  constructor
  · unfold linesOf
    rw [List.length_map]
    have := Sp.Pl.split_length d.data.toList
    omega
  · intro s hs
    unfold linesOf at hs
    obtain ⟨l, hl, rfl⟩ := List.mem_map.1 hs
    have h5 := (List.sublist_flatten_of_mem hl).length_le
    rw [Sp.Pl.join_split] at h5
    have e2 : (⟨l.toArray⟩ : ByteArray).size = l.length := by simp [ByteArray.size]
    rw [e2]
    unfold maxLen
    omega
theorem split_lines (d : ByteArray) (w : World) (h : d.size ≤ 60) : Calls Try.prog 18 #[.string d] w fun e w' => ∃ A c, e = .returned (.slice A (linesOf d).length c) ∧ Strs w' w'.heap.size A (linesOf d) ∧ Below w.heap.size w w' := by
  refine (Sp.split_any d (by omega) w).mono ?_
  rintro e w' ⟨ys, A, c, rfl, hy, hS, _, _, _, hb⟩
  have := lines_of_txts hy
  subst this
  exact ⟨A, c, rfl, hS, hb⟩
theorem find_file (A : Option Addr) (its : List It) (n c : Nat) (p : ByteArray) (X : List ByteArray) (w : World) (ha : ItemsAt w A its) (hn : its.length = n) (hok : TreeOk its) (hp : (p, X) ∈ fl its) :
    Calls Try.prog 16 #[.slice A n c, .string p] w fun e w' => (∃ (d : ByteArray) (b : Bool), e = .returned (.tuple #[.agg #[.string p, .int .i64 2, .string d, .bool b], .bool true]) ∧ linesOf d = X ∧ d.size ≤ 60) ∧ Below w.heap.size w w' := by
  have hnd := once_nodup hok.once
  refine (find_any A its n c p w ha hn (by have := hok.few; omega)).mono ?_
  rintro e w' ⟨hf, hb⟩
  refine ⟨?_, hb⟩
  rw [fl_once hnd] at hp
  obtain ⟨it, hit, e1⟩ := List.mem_map.1 hp
  obtain ⟨hi, hk⟩ := List.mem_filter.1 hit
  have hk2 : it.kind = 2 := by simpa using hk
  injection e1 with e2 e3
  rcases hf with ⟨k, jt, hj, hjp, _, rfl⟩ | ⟨hno, _⟩
  · have hjm := List.mem_of_getElem? hj
    have : jt = it := by
      have hinj : ∀ {l : List It}, (l.map It.path).Nodup → ∀ x ∈ l, ∀ y ∈ l, x.path = y.path → x = y := by
        intro l hl
        induction l with
        | nil => intro x hx; cases hx
        | cons z l ih =>
          rw [List.map_cons, List.nodup_cons] at hl
          intro x hx y hy e
          rcases List.mem_cons.1 hx with hx1 | hx1 <;> rcases List.mem_cons.1 hy with hy1 | hy1
          · rw [hx1, hy1]
          · exact absurd (List.mem_map.2 ⟨y, hy1, by rw [← e, hx1]⟩) hl.1
          · exact absurd (List.mem_map.2 ⟨x, hx1, by rw [e, hy1]⟩) hl.1
          · exact ih hl.2 x hx1 y hy1 e
      exact hinj hnd jt hjm it hi (hjp.trans e2.symm)
    subst this
    refine ⟨jt.data, jt.bad, ?_, e3, hok.data jt hi⟩
    unfold It.cells
    rw [e2, hk2]
  · exact absurd e2 (hno it hi)
theorem below_step {v W w' : World} (h : Below v.heap.size v W) (h2 : Below W.heap.size W w') : Below v.heap.size v w' := h.trans (h2.mono h.size)

theorem compare_less (s t : ByteArray) (w : World) (hs : s.size ≤ 1048576) (ht : t.size ≤ 1048576) (h : plt s t) : Calls Try.prog 19 #[.string s, .string t] w fun e w' => e = .returned (.int .i64 (-1)) ∧ Below w.heap.size w w' := by
  refine (compare_exact s t w hs ht).mono ?_
  rintro e w' ⟨rfl, hb⟩
  have h1 : pcmp (td s) (td t) < 0 := h
  have h2 : pcmp (td s) (td t) = -1 := by
    rcases pcmp_val (td s) (td t) with e | e | e <;> omega
  exact ⟨by rw [h2], hb⟩
theorem fl_path {its : List It} (hok : TreeOk its) {x : ByteArray × List ByteArray} (h : x ∈ fl its) : x.1.size ≤ 200 := by
  rw [fl_once (once_nodup hok.once)] at h
  obtain ⟨it, hit, rfl⟩ := List.mem_map.1 h
  exact hok.path it (List.mem_filter.1 hit).1
theorem text_ne {x y : ByteArray} (h : x ≠ y) : (x.toList == y.toList) = false := by
  rw [Lib.toList_data, Lib.toList_data, beq_eq_false_iff_ne]; exact fun e => h (data_inj e)
/-- what lies in the two items' boxes, and a pair's score -/
abbrev OBox (w : World) (g1 g2 : Nat) (ad : Addr) (d1 d2 : ByteArray) (sc : Nat) (W : World) : Prop :=
  W.cell? ⟨g1, 1, none⟩ = some (.int .i64 2) ∧ W.cell? ⟨g1, 2, none⟩ = some (.string d1) ∧ W.cell? ⟨g2, 1, none⟩ = some (.int .i64 2) ∧ W.cell? ⟨g2, 2, none⟩ = some (.string d2) ∧ W.cell? ad = some (.int .i64 sc) ∧ Below w.heap.size w W
theorem OBox.below {w W W' : World} {g1 g2 sc : Nat} {ad : Addr} {d1 d2 : ByteArray} (h : OBox w g1 g2 ad d1 d2 sc W) (hb : Below W.heap.size W W') : OBox w g1 g2 ad d1 d2 sc W' := by
  obtain ⟨h1, h2, h3, h4, h5, h6⟩ := h
  refine ⟨?_, ?_, ?_, ?_, ?_, below_step h6 hb⟩
  · rw [hb.cell (p := ⟨g1, 1, none⟩) (lt_of_cell h1 :)]; exact h1
  · rw [hb.cell (p := ⟨g1, 2, none⟩) (lt_of_cell h2 :)]; exact h2
  · rw [hb.cell (p := ⟨g2, 1, none⟩) (lt_of_cell h3 :)]; exact h3
  · rw [hb.cell (p := ⟨g2, 2, none⟩) (lt_of_cell h4 :)]; exact h4
  · rw [hb.cell (p := ad) (lt_of_cell h5 :)]; exact h5
theorem OBox.drew {w W : World} {g1 g2 sc : Nat} {ad : Addr} {d1 d2 : ByteArray} (h : OBox w g1 g2 ad d1 d2 sc W) : OBox w g1 g2 ad d1 d2 sc W.drew := ⟨h.1, h.2.1, h.2.2.1, h.2.2.2.1, h.2.2.2.2.1, below_drewN h.2.2.2.2.2 1⟩

/-- what lies in two pairs -/
abbrev TBox (w : World) (a1 a2 : Addr) (s1 s2 : ByteArray) (W : World) : Prop := W.cell? a1 = some (.string s1) ∧ W.cell? a2 = some (.string s2) ∧ Below w.heap.size w W
theorem TBox.below {w W W' : World} {a1 a2 : Addr} {s1 s2 : ByteArray} (h : TBox w a1 a2 s1 s2 W) (hb : Below W.heap.size W W') : TBox w a1 a2 s1 s2 W' := by
  obtain ⟨h1, h2, h3⟩ := h
  refine ⟨?_, ?_, below_step h3 hb⟩
  · rw [hb.cell (lt_of_cell h1)]; exact h1
  · rw [hb.cell (lt_of_cell h2)]; exact h2
theorem TBox.drew {w W : World} {a1 a2 : Addr} {s1 s2 : ByteArray} (h : TBox w a1 a2 s1 s2 W) : TBox w a1 a2 s1 s2 W.drew := ⟨h.1, h.2.1, below_drewN h.2.2 1⟩

set_option maxHeartbeats 8000000 in
set_option maxRecDepth 100000 in
theorem once_any (A B : Option Addr) (n m c d : Nat) (th : Int) (w : World) (t1 : -9223372036854775808 ≤ th) (t2 : th ≤ 9223372036854775807)
    (ha : ∀ W, Below w.heap.size w W → Calls Try.prog 15 #[.slice A n c] W (TreeCap W)) (hb : ∀ W, Below w.heap.size w W → Calls Try.prog 15 #[.slice B m d] W (TreeCap W)) :
    Calls Try.prog 4 #[.slice A n c, .slice B m d, .int .i64 th] w fun e w' => e = .returned (.bool true) ∧ Below w.heap.size w w' := by
  have HA := Lib.hid ha
  have HB := Lib.hid hb
  clear ha hb
  go_enter Try.func4, Try.ntmps4
  go_wp2_with fail
  refine (awake_any _).mono ?_
  rintro e w1 ⟨rfl, hB1⟩
  have HB1 := Lib.hid hB1
  clear hB1
  go_wp2_with fail
  refine (HA.out _ HB1.out).mono ?_
  rintro e w2 ⟨A1, c1, a, rfl, hI1, hO1, hB2, _⟩
  have HI1 := Lib.hid hI1
  have HO1 := Lib.hid hO1
  have HB2 := Lib.hid (HB1.out.trans (hB2.mono HB1.out.size))
  clear hI1 hO1 hB2
  go_wp2_with fail
  refine (HB.out _ HB2.out).mono ?_
  rintro e w3 ⟨A2, c2, b, rfl, hI2, hO2, hB3, _⟩
  have HI1' := Lib.hid (HI1.out.up hB3)
  have HI2 := Lib.hid hI2
  have HO2 := Lib.hid hO2
  have HB3 := Lib.hid (HB2.out.trans (hB3.mono HB2.out.size))
  clear hI2 hO2 hB3 HI1 HA HB HB1 HB2
  have la : a.length ≤ 200 := HO1.out.few
  have lb : b.length ≤ 200 := HO2.out.few
  go_wp2_with fail
  refine (pick11_any th 101 _ t1 t2 (by omega) (by omega)).mono ?_
  rintro e w4 ⟨rfl, rfl⟩
  obtain ⟨t, ht⟩ : ∃ t : Int, pickI th 101 = t := ⟨_, rfl⟩
  have rt := pickI_range th 101 (by omega)
  rw [ht] at rt ⊢
  obtain ⟨t3, t4⟩ := rt
  clear ht
  go_wp2_with fail
  refine (pairs_told A1 A2 a b a.length b.length c1 c2 t _ HI1'.out HI2.out rfl rfl HO1.out.fit HO2.out.fit).mono ?_
  rintro e w9 ⟨A9, c9, L, rfl, hP, hL, hB9, hll⟩
  have HP := Lib.hid hP
  have HL := Lib.hid hL
  have U1 := Lib.hid (HI1'.out.up hB9)
  have U2 := Lib.hid (HI2.out.up hB9)
  have UB := Lib.hid (HB3.out.trans (hB9.mono HB3.out.size))
  have hl2 : L.length ≤ 200 := by omega
  clear hP hL hB9 hll HI1' HI2 HB3
  go_wp2_with fail
  go_loopw [12] (fun i wr => ∃ k : Nat, k ≤ L.length ∧ i = .int .i64 k ∧ Below w9.heap.size w9 wr) (fun i _ => L.length - (intOf i).toNat)
  case atStart => exact ⟨0, Nat.zero_le _, rfl, Below.refl _ _⟩
  case round =>
    obtain ⟨k, hk, rfl, hBr⟩ := hrel
    by_cases g1 : k < L.length
    · obtain ⟨pr, hpr⟩ : ∃ pr, L[k]? = some pr := ⟨_, List.getElem?_eq_getElem g1⟩
      obtain ⟨⟨p1, X1⟩, hx, ⟨p2, X2⟩, hy, hpe, hmx⟩ := HP.out.cand pr (List.mem_of_getElem? hpr)
      have hpr2 := hpr
      subst hpe
      obtain ⟨al, rfl, hal, hca⟩ := HL.out (by intro e; subst e; simp at hpr)
      have HQ : Hid (∀ W, Below w9.heap.size w9 W → ∀ k x, L[k]? = some x → W.cell? (al.add (k * 3)) = some (.string x.fr) ∧ W.cell? ⟨(al.add (k * 3)).block, (al.add (k * 3)).off + 1, none⟩ = some (.string x.tt) ∧ W.cell? ⟨(al.add (k * 3)).block, (al.add (k * 3)).off + 2, none⟩ = some (.int .i64 x.sc)) := Lib.hid fun W hB k x hk => by
        obtain ⟨c0, c1, c2⟩ := hca k x hk
        have hlt : (al.add (k * 3)).block < w9.heap.size := by rw [add_block]; exact hal
        exact ⟨(hB.cell hlt).trans c0, (hB.cell (p := ⟨_, _, none⟩) hlt).trans c1, (hB.cell (p := ⟨_, _, none⟩) hlt).trans c2⟩
      have HPR := Lib.hid hpr2
      have HX := Lib.hid hx
      have HY := Lib.hid hy
      have HMX := Lib.hid hmx
      have HBR := Lib.hid hBr
      clear hpr hpr2 hx hy hmx hca hBr hal
      obtain ⟨sc, hsc⟩ : ∃ sc : Nat, Al.score X1 X2 = sc := ⟨_, rfl⟩
      have HSC := Lib.hid hsc
      have hsc1 : max t 1 ≤ (sc : Int) := by have := HMX.out; rw [← hsc]; exact this
      have hsc2 : sc ≤ 100 := by rw [← hsc]; exact Al.score_le _ _
      obtain ⟨q0, q1, q2⟩ := HQ.out _ HBR.out k _ HPR.out
      dsimp only at q0 q1 q2
      rw [hsc] at q2
      have HPR2 : Hid (L[k]? = some ⟨p1, p2, (sc : Int)⟩) := Lib.hid (by rw [← hsc]; exact HPR.out)
      clear hsc HPR HMX
      go_wp2_with fail
      refine (find_file A1 a a.length c1 p1 X1 _ (U1.out.up HBR.out) rfl HO1.out HX.out).mono ?_
      rintro e w10 ⟨⟨d1, b1, rfl, hd1, hz1⟩, hB10⟩
      have HD1 := Lib.hid hd1
      have hB10' : Below w9.heap.size w9 (w10.alloc (.cells #[.string p1, .int .i64 2, .string d1, .bool b1] 33)) := (below_step HBR.out hB10).alloc (below_step HBR.out hB10).size _
      have hbk1 := Blk.new w10 33 #[.string p1, .int .i64 2, .string d1, .bool b1]
      obtain ⟨q0', q1', q2'⟩ := HQ.out _ hB10' k _ HPR2.out
      dsimp only at q0' q1' q2'
      have HBK1 := Lib.hid hbk1
      have HB10 := Lib.hid hB10'
      clear q0 q1 q2 hd1 hB10 hbk1 hB10'
      go_wp2_with fail
      obtain ⟨g1', hg1'⟩ : ∃ g, g = w10.heap.size := ⟨_, rfl⟩
      rw [← hg1'] at HBK1 ⊢
      obtain ⟨wx, hwx⟩ : ∃ wx, wx = w10.alloc (.cells #[.string p1, .int .i64 2, .string d1, .bool b1] 33) := ⟨_, rfl⟩
      rw [← hwx] at HBK1 HB10 q0' q1' q2' ⊢
      clear hwx hg1'
      refine (find_file A2 b b.length c2 p2 X2 _ (U2.out.up HB10.out) rfl HO2.out HY.out).mono ?_
      rintro e w11 ⟨⟨d2, b2, rfl, hd2, hz2⟩, hB11⟩
      have HD2 := Lib.hid hd2
      have hB11' : Below w9.heap.size w9 (w11.alloc (.cells #[.string p2, .int .i64 2, .string d2, .bool b2] 33)) := (below_step HB10.out hB11).alloc (below_step HB10.out hB11).size _
      have hbk2 := Blk.new w11 33 #[.string p2, .int .i64 2, .string d2, .bool b2]
      have hbk1 := (Blk.below HBK1.out hB11 HBK1.out.lt).alloc (.cells #[.string p2, .int .i64 2, .string d2, .bool b2] 33)
      obtain ⟨q0, q1, q2⟩ := HQ.out _ hB11' k _ HPR2.out
      dsimp only at q0 q1 q2
      have h0 : OBox w9 g1' w11.heap.size ⟨(al.add (k * 3)).block, (al.add (k * 3)).off + 2, none⟩ d1 d2 sc (w11.alloc (.cells #[.string p2, .int .i64 2, .string d2, .bool b2] 33)) := ⟨hbk1.cell 1, hbk1.cell 2, hbk2.cell 1, hbk2.cell 2, q2, hB11'⟩
      clear q0' q1' q2' hd2 hB11 hbk1 hbk2 hB11' q0 q1 q2
      go_wp2_with fail
      obtain ⟨g2', hg2'⟩ : ∃ g, g = w11.heap.size := ⟨_, rfl⟩
      rw [← hg2'] at h0 ⊢
      obtain ⟨wy, hwy⟩ : ∃ wy, wy = w11.alloc (.cells #[.string p2, .int .i64 2, .string d2, .bool b2] 33) := ⟨_, rfl⟩
      rw [← hwy] at h0 ⊢
      clear hwy hg2' HBK1
      obtain ⟨s1, s2, s3, s4, s5, s6⟩ := h0
      have HF1 := Lib.hid (lines_fit hz1)
      have HF2 := Lib.hid (lines_fit hz2)
      have HSC2 : Hid (Al.score (linesOf d1) (linesOf d2) = sc) := Lib.hid (by rw [HD1.out, HD2.out]; exact HSC.out)
      go_region_held3 (fun W => W.cell? ⟨g1', 1, none⟩ = some (.int .i64 2) ∧ W.cell? ⟨g1', 2, none⟩ = some (.string d1) ∧ W.cell? ⟨g2', 1, none⟩ = some (.int .i64 2) ∧ W.cell? ⟨g2', 2, none⟩ = some (.string d2) ∧ W.cell? ⟨(al.add (k * 3)).block, (al.add (k * 3)).off + 2, none⟩ = some (.int .i64 sc) ∧ Below w9.heap.size w9 W)
        ((go_split_ands; (first | exact ⟨by assumption, by assumption, by assumption, by assumption, by assumption, by assumption⟩ | with_reducible exact OBox.below (w := w9) ⟨by assumption, by assumption, by assumption, by assumption, by assumption, by assumption⟩ hb | with_reducible exact OBox.drew (w := w9) ⟨by assumption, by assumption, by assumption, by assumption, by assumption, by assumption⟩)))
        (first
          | ((with_reducible refine (split_lines d1 _ hz1).mono ?_); rintro e ws1 ⟨As1, cs1, rfl, hS1, hb⟩; have HS1 := Lib.hid hS1; clear hS1)
          | ((with_reducible refine (split_lines d2 _ hz2).mono ?_); rintro e ws2 ⟨As2, cs2, rfl, hS2, hb⟩; have HS2 := Lib.hid hS2; have HS1b := Lib.hid (HS1.out.up2 hb); clear hS2)
          | ((with_reducible refine (score_at As1 As2 _ _ cs1 cs2 sc _ HS1b.out HS2.out HF1.out.1 HF2.out.1 HF1.out.2 HF2.out.2 HSC2.out).mono ?_); rintro e ws3 ⟨rfl, hb⟩))
      have HZ : Hid (Below w9.heap.size w9 ws3) := Lib.hid (by go_split_ands; assumption)
      have HLT : Hid (∀ (q : Nat) (x : Pr), q < k → L[q]? = some x → plt x.tt p2 ∧ x.fr ≠ p1 ∧ x.tt ≠ p2) := Lib.hid fun q x hq hx => by
        obtain ⟨hq1, rfl⟩ := List.getElem?_eq_some_iff.1 hx
        obtain ⟨hk1, hk2⟩ := List.getElem?_eq_some_iff.1 HPR2.out
        have h1 := List.pairwise_iff_getElem.1 HP.out.sort q k hq1 hk1 hq
        rw [hk2] at h1
        refine ⟨h1, fun e => ?_, fun e => ?_⟩
        · have h2 := HP.out.apart _ (List.getElem_mem hq1) _ (List.mem_of_getElem? HPR2.out) (.inl e)
          rw [h2] at h1
          exact plt_irrefl _ h1
        · rw [e] at h1
          exact plt_irrefl _ h1
      have HPS : Hid (∀ (q : Nat) (x : Pr), L[q]? = some x → x.tt.size ≤ 200) := Lib.hid fun q x hx => by
        obtain ⟨u, _, v, hv, rfl, _⟩ := HP.out.cand x (List.mem_of_getElem? hx)
        exact fl_path HO2.out hv
      clear HS1 HS2 HS1b hb s1 s2 s3 s4 s5 s6 HX HY HD1 HD2 HF1 HF2 HSC HSC2 HB10
      go_simp
      go_wp2_with fail
      go_loopw [17] (fun j wr => ∃ q : Nat, q ≤ k ∧ j = .int .i64 q ∧ Below w9.heap.size w9 wr) (fun j _ => k - (intOf j).toNat)
      case atStart => exact ⟨0, Nat.zero_le _, rfl, HZ.out⟩
      case round =>
        obtain ⟨q, hq, rfl, hBq⟩ := hrel
        have HBQ := Lib.hid hBq
        clear hBq
        by_cases g2 : q < k
        · obtain ⟨pj, hpj⟩ : ∃ pj, L[q]? = some pj := ⟨_, List.getElem?_eq_getElem (by omega)⟩
          obtain ⟨_, f1, f2⟩ := HLT.out q pj g2 hpj
          obtain ⟨y0, y1, _⟩ := HQ.out _ HBQ.out q pj hpj
          obtain ⟨z0, z1, _⟩ := HQ.out _ HBQ.out k _ HPR2.out
          dsimp only at z0 z1
          have f1' := text_ne f1
          have f2' := text_ne f2
          have hqL : q < L.length := by omega
          clear hpj f1 f2
          go_wp2_with fail
          go_quiet (fail)
          go_wp2_with fail
          go_roundw
          case rel => exact ⟨q + 1, by omega, by go_num, below_drewN HBQ.out _⟩
          case measure => simp [intOf]; omega
        · by_cases g3 : k = 0
          · have g4 : decide ((0 : Int) < (k : Int)) = false := by simp; omega
            have g5 : decide (0 < k) = false := by simp; omega
            have g6 : ¬ 0 < k := by omega
            clear g3
            go_wp2_with fail
            go_quiet (fail)
            go_wp2_with fail
            go_roundw
            case rel => exact ⟨k + 1, by omega, by go_num, below_drewN HBQ.out _⟩
            case measure => simp [intOf]; omega
          · obtain ⟨j, hj⟩ : ∃ j, j + 1 = k := ⟨k - 1, by omega⟩
            have g4 : decide ((0 : Int) < (k : Int)) = true := by simp; omega
            have g5 : decide (0 < k) = true := by simp; omega
            have g6 : 0 < k := by omega
            obtain ⟨pj, hpj⟩ : ∃ pj, L[j]? = some pj := ⟨_, List.getElem?_eq_getElem (by omega)⟩
            obtain ⟨hlt, _, _⟩ := HLT.out j pj (by omega) hpj
            obtain ⟨_, y1, _⟩ := HQ.out _ HBQ.out j pj hpj
            obtain ⟨_, z1, _⟩ := HQ.out _ HBQ.out k _ HPR2.out
            dsimp only at z1
            have hz1 := HPS.out j pj hpj
            have hz2 := HPS.out k _ HPR2.out
            dsimp only at hz2
            have u1 : IntKind.i64.wrap ((k : Int) - 1) = (j : Int) := by rw [IntWalk.i64_in _ (by omega)]; omega
            have hjL : j < L.length := by omega
            have v1 : (0 : Int) ≤ (k : Int) - 1 := by omega
            have v2 : (1 : Int) ≤ (k : Int) := by omega
            have v3 : 1 ≤ k := by omega
            have v4 : ((k : Int) - 1).toNat = j := by omega
            have v5 : (j : Int) < (L.length : Int) := by omega
            have v6 : (k : Int) - 1 < (L.length : Int) := by omega
            have hBz := HBQ.out
            have HLESS := Lib.hid hlt
            clear hpj hj g3 hlt
            go_wp2_with fail
            go_region_held3 (fun W => W.cell? ⟨(al.add (j * 3)).block, (al.add (j * 3)).off + 1, none⟩ = some (.string pj.tt) ∧ W.cell? ⟨(al.add (k * 3)).block, (al.add (k * 3)).off + 1, none⟩ = some (.string p2) ∧ Below w9.heap.size w9 W)
              ((go_split_ands; (first | exact ⟨by assumption, by assumption, by assumption⟩ | with_reducible exact TBox.below (w := w9) ⟨by assumption, by assumption, by assumption⟩ hb | with_reducible exact TBox.drew (w := w9) ⟨by assumption, by assumption, by assumption⟩)))
              (((with_reducible refine (compare_less pj.tt p2 _ (by omega) (by omega) HLESS.out).mono ?_); rintro e wt ⟨rfl, hb⟩))
            go_simp
            go_wp2_with fail
            go_roundw
            case rel => exact ⟨k + 1, by omega, by go_num, by go_split_ands; assumption⟩
            case measure => simp [intOf]; omega
    · go_wp2_with fail
      go_ret
      exact ⟨rfl, UB.out.trans (hBr.mono UB.out.size)⟩

end Go.Proofs.Ytdnckhagknlfhaa
