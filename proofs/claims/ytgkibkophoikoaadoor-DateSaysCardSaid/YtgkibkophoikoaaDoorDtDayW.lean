/- date's Day: the walk. -/
import Derived.Test.YtgkibkophoikoaaDoorDtMon
import Derived.Test.YtgkibkophoikoaaDoorDtNumber
import Derived.Test.YtgkibkophoikoaaDoorDtDay5
import Derived.Test.YtgkibkophoikoaaDoorFlags
namespace Go.Proofs.YtgkibkophoikoaaDoor
open Go.RowKit
set_option linter.unusedVariables false
set_option maxRecDepth 100000

/-- What Day hands back. -/
def dayV : Option Nat → Value
  | none => .tuple #[.int .i64 0, .int .i64 3]
  | some n => .tuple #[.int .i64 (n : Int), .int .i64 0]
def DayREnd (l : List UInt8) (w : World) (e : Ending) (w' : World) : Prop := ∃ r, Dt.DayR l r ∧ e = .returned (dayV r) ∧ Below w.heap.size w w'
/-- Day's region under way. -/
def DS (w : World) (xy xo xd : Int) (p : Nat) (R : Nat → Value) (W : World) : Prop := Below w.heap.size w W ∧ (0 < p → R 0 = .int .i64 xy) ∧ (1 < p → R 1 = .int .i64 xo) ∧ (2 < p → R 2 = .int .i64 xd)

set_option maxHeartbeats 6400000 in
theorem day_any (s : ByteArray) (w : World) (hW : FW w) : Calls Tryd.prog 11 #[.string s] w (DayREnd s.data.toList w) := by
  have HW := Lib.hid hW
  have hlen : s.data.toList.length = s.size := rfl
  clear hW
  obtain ⟨l, hl⟩ : ∃ l, l = s.data.toList := ⟨_, rfl⟩
  rw [← hl] at hlen ⊢
  by_cases h10 : s.size = 10
  · have b1 : ((s.size : Int) == 10) = true := by rw [beq_iff_eq]; omega
    obtain ⟨p, hp⟩ : ∃ p : ByteArray, (⟨#[48]⟩ : ByteArray) ++ s = p := ⟨_, rfl⟩
    have hpd : p.data.toList = 48 :: l := by rw [← hp, ByteArray.data_append, hl]; simp
    have HPAD : Hid (Dt.Pad l p.data.toList) := Lib.hid (.inl ⟨by rw [hlen]; exact h10, hpd⟩)
    have h11 : p.size = 11 := by
      have h1 : p.data.toList.length = p.size := rfl
      rw [hpd, List.length_cons, hlen] at h1
      omega
    have hbig : ¬ 9223372036854775807 < 1 + s.size := by omega
    have b2 : ((p.size : Int) != 11) = false := by rw [bne_eq_false_iff_eq]; omega
    clear hpd h10 hlen hl
    have hplen : p.data.toList.length = p.size := rfl
    have hi2 : 2 < p.size := by omega
    have hi6 : 6 < p.size := by omega
    obtain ⟨ch2, hc2⟩ : ∃ ch : UInt8, p[2] = ch := ⟨_, rfl⟩
    obtain ⟨ch6, hc6⟩ : ∃ ch : UInt8, p[6] = ch := ⟨_, rfl⟩
    have HC2 : Hid (p.data.toList[2]? = some ch2) := Lib.hid (by rw [List.getElem?_eq_getElem (by omega)]; exact congrArg some hc2)
    have HC6 : Hid (p.data.toList[6]? = some ch6) := Lib.hid (by rw [List.getElem?_eq_getElem (by omega)]; exact congrArg some hc6)
    have cut : ∀ a b : Nat, a ≤ b → b ≤ 11 → ∃ q : ByteArray, p.extract a b = q ∧ q.size = b - a ∧ q.data.toList = (p.data.toList.drop a).take (b - a) := fun a b h1 h2 => ⟨_, rfl, by simp; omega, Lib.extract_data p a b⟩
    obtain ⟨p1, e1, z1, d1⟩ := cut 7 11 (by omega) (by omega)
    obtain ⟨p2, e2, z2, d2⟩ := cut 3 6 (by omega) (by omega)
    obtain ⟨p3, e3, z3, d3⟩ := cut 0 2 (by omega) (by omega)
    rw [List.drop_zero] at d3
    have d1' : p1.data.toList = p.data.toList.drop 7 := by rw [d1]; exact List.take_of_length_le (by rw [List.length_drop, hplen]; omega)
    obtain ⟨xy, Hxy⟩ : ∃ x, Hid (x = Dt.number p1.data.toList) := ⟨_, Lib.hid rfl⟩
    obtain ⟨xo, Hxo⟩ : ∃ x : Int, Hid (x = (Dt.mon p2.data.toList : Int)) := ⟨_, Lib.hid rfl⟩
    obtain ⟨xd, Hxd⟩ : ∃ x, Hid (x = Dt.number p3.data.toList) := ⟨_, Lib.hid rfl⟩
    have HN1 := Lib.hid (number_any p1 (by omega) xy Hxy.out)
    have HN3 := Lib.hid (number_any p3 (by omega) xd Hxd.out)
    have HMO : Hid (∀ W, Below w.heap.size w W → Calls Tryd.prog 25 #[.string p2] W fun e w' => e = .returned (.int .i64 xo) ∧ Below W.heap.size W w') := Lib.hid (fun W hb => monthOf_any p2 (by omega) xo Hxo.out W (HW.out.below hb))
    have HDC : Hid (Dt.DayC p.data.toList ↔ ch2 = 45 ∧ ch6 = 45 ∧ Dt.GDay xy xo xd) := Lib.hid (by
      unfold Dt.DayC
      rw [HC2.out, HC6.out, ← d1', ← Hxy.out, ← d2, ← Hxo.out, ← d3, ← Hxd.out]
      constructor
      · rintro ⟨_, h2, h6, h⟩; exact ⟨Option.some.inj h2, Option.some.inj h6, h⟩
      · rintro ⟨h2, h6, h⟩; exact ⟨by rw [hplen]; exact h11, by rw [h2], by rw [h6], h⟩)
    have HNO : Hid (¬ (ch2 = 45 ∧ ch6 = 45 ∧ Dt.GDay xy xo xd) → Dt.DayR l none) := Lib.hid (fun h => Dt.DayR.no HPAD.out (fun hc => h (HDC.out.1 hc)))
    have HYES : Hid (∀ (n Y M K : Nat), ch2 = 45 → ch6 = 45 → Dt.GDay xy xo xd → xy = (Y : Int) → xo = (M : Int) → xd = (K : Int) → n = Dt.num Y M K → Dt.DayR l (some n)) := Lib.hid (fun n Y M K k1 k2 k3 g1 g2 g3 g4 => by
      obtain ⟨q1, q2, q3⟩ := Dt.day_of HPAD.out (HDC.out.2 ⟨k1, k2, k3⟩)
      rw [← d1', ← Hxy.out] at q2
      rw [← d3, ← Hxd.out] at q3
      rw [← d1', ← d2, ← d3] at q1
      rw [g1] at q2
      rw [g3] at q3
      rw [Hxo.out] at g2
      have w1 : Y = Oct.numTo p1.data.toList := by exact_mod_cast q2
      have w2 : K = Oct.numTo p3.data.toList := by exact_mod_cast q3
      have w3 : M = Dt.mon p2.data.toList := by exact_mod_cast g2.symm
      rw [g4, w1, w2, w3]
      exact q1)
    have E1 := Lib.hid e1
    have E2 := Lib.hid e2
    have E3 := Lib.hid e3
    have H11 := Lib.hid h11
    clear cut e1 e2 e3 z1 z2 z3 d1 d2 d3 d1' h11 hplen
    by_cases g2 : ch2.toNat = 45
    case neg =>
      have c2 : ((ch2.toNat : Int) != 45) = true := by rw [bne_iff_ne]; omega
      have HE := Lib.hid (HNO.out (fun h => g2 (by rw [h.1]; rfl)))
      clear g2
      go_enter Tryd.func11, Tryd.ntmps11
      go_wp2
      go_ret2
      exact ⟨none, HE.out, rfl, Below.refl _ _⟩
    have c2 : ((ch2.toNat : Int) != 45) = false := by rw [bne_eq_false_iff_eq]; omega
    have G2 : Hid (ch2 = 45) := Lib.hid (UInt8.toNat_inj.1 g2)
    clear g2
    by_cases g6 : ch6.toNat = 45
    case neg =>
      have c6 : ((ch6.toNat : Int) != 45) = true := by rw [bne_iff_ne]; omega
      have HE := Lib.hid (HNO.out (fun h => g6 (by rw [h.2.1]; rfl)))
      clear g6
      go_enter Tryd.func11, Tryd.ntmps11
      go_wp2
      go_ret2
      exact ⟨none, HE.out, rfl, Below.refl _ _⟩
    have c6 : ((ch6.toNat : Int) != 45) = false := by rw [bne_eq_false_iff_eq]; omega
    have G6 : Hid (ch6 = 45) := Lib.hid (UInt8.toNat_inj.1 g6)
    clear g6
    have HGD := Lib.hid (goodDay_any xy xo xd)
    go_enter Tryd.func11, Tryd.ntmps11
    go_wp2
    refine day5 p p1 p2 p3 xy xo xd (DS w xy xo xd) (by show 33 < 43; omega) rfl H11.out E1.out E2.out E3.out ?_ ?_ ?_ (fun q R W h => h.2) ⟨(Below.refl _ _).drew, fun h => absurd h (by decide), fun h => absurd h (by decide), fun h => absurd h (by decide)⟩ ?_
    · intro R W h
      refine (HN1.out W).mono ?_
      rintro e w' ⟨rfl, rfl⟩
      exact ⟨_, rfl, h.1, fun _ => setR_self _ _ _, fun h => absurd h (by decide), fun h => absurd h (by decide)⟩
    · intro R W h
      refine (HMO.out W h.1).mono ?_
      rintro e w' ⟨rfl, hb⟩
      exact ⟨_, rfl, h.1.trans (hb.mono h.1.size), fun _ => by rw [setR_ne _ _ (by decide)]; exact h.2.1 (by decide), fun _ => setR_self _ _ _, fun h => absurd h (by decide)⟩
    · intro R W h
      refine (HN3.out W).mono ?_
      rintro e w' ⟨rfl, rfl⟩
      exact ⟨_, rfl, h.1, fun _ => by rw [setR_ne _ _ (by decide)]; exact h.2.1 (by decide), fun _ => by rw [setR_ne _ _ (by decide)]; exact h.2.2.1 (by decide), fun _ => setR_self _ _ _⟩
    intro af w2 hfr h4 h5 h6 hS
    have HB2 := Lib.hid hS.1
    clear hS
    have ha := hfr.eq (by intro t ht; simp at ht; show t < 43; omega)
    simp only [List.foldl_cons, List.foldl_nil] at ha
    clear hfr
    rw [h4] at ha
    clear h4
    rw [h5] at ha
    clear h5
    rw [h6] at ha
    clear h6
    generalize af.eval (.tmp 25) = u25 at ha
    generalize af.eval (.tmp 26) = u26 at ha
    generalize af.eval (.tmp 27) = u27 at ha
    generalize af.eval (.tmp 28) = u28 at ha
    generalize af.eval (.tmp 29) = u29 at ha
    generalize af.eval (.tmp 30) = u30 at ha
    generalize af.eval (.tmp 31) = u31 at ha
    generalize af.eval (.tmp 32) = u32 at ha
    generalize af.eval (.tmp 33) = u33 at ha
    subst ha
    simp only [Act.put, List.setIfInBounds_toArray, List.set_cons_zero, List.set_cons_succ]
    by_cases hg : Dt.GDay xy xo xd
    case neg =>
      have HD := Lib.hid (decide_eq_false hg)
      have HE := Lib.hid (HNO.out (fun h => hg h.2.2))
      clear hg
      go_wp2_with fail
      refine (HGD.out _).mono ?_
      rintro e w3 ⟨rfl, rfl⟩
      rw [HD.out]
      go_wp2
      go_ret2
      exact ⟨none, HE.out, rfl, HB2.out⟩
    have HD := Lib.hid (decide_eq_true hg)
    have HG := Lib.hid hg
    obtain ⟨a1, a2, a3, a4, a5, a6⟩ := hg
    obtain ⟨Y, rfl⟩ : ∃ Y : Nat, xy = (Y : Int) := ⟨xy.toNat, by omega⟩
    obtain ⟨M, rfl⟩ : ∃ M : Nat, xo = (M : Int) := ⟨xo.toNat, by omega⟩
    obtain ⟨K, rfl⟩ : ∃ K : Nat, xd = (K : Int) := ⟨xd.toNat, by omega⟩
    simp only [Int.toNat_natCast] at a6
    have hdm := (Dt.dm_pos Y M).2
    obtain ⟨n, HNn⟩ : ∃ n : Nat, Hid (n = Dt.num Y M K) := ⟨_, Lib.hid rfl⟩
    have hn : n < 2932897 := by rw [HNn.out]; exact Dt.num_lt_top (by omega) (by omega) (by omega) (by omega) (by omega) (by omega)
    have HDN := Lib.hid (dayNumber_any Y M K (n : Int) (by rw [HNn.out]) (by omega) (by omega) (by omega) (by omega) (by omega) (by omega))
    have HE := Lib.hid (HYES.out n Y M K G2.out G6.out HG.out rfl rfl rfl HNn.out)
    have i1 : IntKind.i64.wrap (n : Int) = (n : Int) := IntWalk.i64_in _ (by omega)
    clear a1 a2 a3 a4 a5 a6 hdm
    go_wp2_with fail
    refine (HGD.out _).mono ?_
    rintro e w3 ⟨rfl, rfl⟩
    rw [HD.out]
    go_wp2_with fail
    refine (HDN.out _).mono ?_
    rintro e w3 ⟨rfl, rfl⟩
    go_wp2
    go_ret2
    exact ⟨some n, HE.out, rfl, HB2.out⟩
  have b1 : ((s.size : Int) == 10) = false := by rw [beq_eq_false_iff_ne]; omega
  by_cases h11 : s.size = 11
  case neg =>
    have b2 : ((s.size : Int) != 11) = true := by rw [bne_iff_ne]; omega
    have HN : Hid (Dt.DayR l none) := Lib.hid (Dt.DayR.no (.inr ⟨by rw [hlen]; exact h10, rfl⟩) (fun h => h11 (by rw [← hlen]; exact h.1)))
    clear h10 h11 hlen hl
    go_enter Tryd.func11, Tryd.ntmps11
    go_wp2
    go_ret2
    exact ⟨none, HN.out, rfl, Below.refl _ _⟩
  · obtain ⟨p, hp⟩ : ∃ p : ByteArray, p = s := ⟨_, rfl⟩
    have HPAD : Hid (Dt.Pad l p.data.toList) := Lib.hid (.inr ⟨by rw [hlen]; exact h10, by rw [hp, hl]⟩)
    subst hp
    have b2 : ((p.size : Int) != 11) = false := by rw [bne_eq_false_iff_eq]; omega
    clear h10 hlen hl
    have hplen : p.data.toList.length = p.size := rfl
    have hi2 : 2 < p.size := by omega
    have hi6 : 6 < p.size := by omega
    obtain ⟨ch2, hc2⟩ : ∃ ch : UInt8, p[2] = ch := ⟨_, rfl⟩
    obtain ⟨ch6, hc6⟩ : ∃ ch : UInt8, p[6] = ch := ⟨_, rfl⟩
    have HC2 : Hid (p.data.toList[2]? = some ch2) := Lib.hid (by rw [List.getElem?_eq_getElem (by omega)]; exact congrArg some hc2)
    have HC6 : Hid (p.data.toList[6]? = some ch6) := Lib.hid (by rw [List.getElem?_eq_getElem (by omega)]; exact congrArg some hc6)
    have cut : ∀ a b : Nat, a ≤ b → b ≤ 11 → ∃ q : ByteArray, p.extract a b = q ∧ q.size = b - a ∧ q.data.toList = (p.data.toList.drop a).take (b - a) := fun a b h1 h2 => ⟨_, rfl, by simp; omega, Lib.extract_data p a b⟩
    obtain ⟨p1, e1, z1, d1⟩ := cut 7 11 (by omega) (by omega)
    obtain ⟨p2, e2, z2, d2⟩ := cut 3 6 (by omega) (by omega)
    obtain ⟨p3, e3, z3, d3⟩ := cut 0 2 (by omega) (by omega)
    rw [List.drop_zero] at d3
    have d1' : p1.data.toList = p.data.toList.drop 7 := by rw [d1]; exact List.take_of_length_le (by rw [List.length_drop, hplen]; omega)
    obtain ⟨xy, Hxy⟩ : ∃ x, Hid (x = Dt.number p1.data.toList) := ⟨_, Lib.hid rfl⟩
    obtain ⟨xo, Hxo⟩ : ∃ x : Int, Hid (x = (Dt.mon p2.data.toList : Int)) := ⟨_, Lib.hid rfl⟩
    obtain ⟨xd, Hxd⟩ : ∃ x, Hid (x = Dt.number p3.data.toList) := ⟨_, Lib.hid rfl⟩
    have HN1 := Lib.hid (number_any p1 (by omega) xy Hxy.out)
    have HN3 := Lib.hid (number_any p3 (by omega) xd Hxd.out)
    have HMO : Hid (∀ W, Below w.heap.size w W → Calls Tryd.prog 25 #[.string p2] W fun e w' => e = .returned (.int .i64 xo) ∧ Below W.heap.size W w') := Lib.hid (fun W hb => monthOf_any p2 (by omega) xo Hxo.out W (HW.out.below hb))
    have HDC : Hid (Dt.DayC p.data.toList ↔ ch2 = 45 ∧ ch6 = 45 ∧ Dt.GDay xy xo xd) := Lib.hid (by
      unfold Dt.DayC
      rw [HC2.out, HC6.out, ← d1', ← Hxy.out, ← d2, ← Hxo.out, ← d3, ← Hxd.out]
      constructor
      · rintro ⟨_, h2, h6, h⟩; exact ⟨Option.some.inj h2, Option.some.inj h6, h⟩
      · rintro ⟨h2, h6, h⟩; exact ⟨by rw [hplen]; exact h11, by rw [h2], by rw [h6], h⟩)
    have HNO : Hid (¬ (ch2 = 45 ∧ ch6 = 45 ∧ Dt.GDay xy xo xd) → Dt.DayR l none) := Lib.hid (fun h => Dt.DayR.no HPAD.out (fun hc => h (HDC.out.1 hc)))
    have HYES : Hid (∀ (n Y M K : Nat), ch2 = 45 → ch6 = 45 → Dt.GDay xy xo xd → xy = (Y : Int) → xo = (M : Int) → xd = (K : Int) → n = Dt.num Y M K → Dt.DayR l (some n)) := Lib.hid (fun n Y M K k1 k2 k3 g1 g2 g3 g4 => by
      obtain ⟨q1, q2, q3⟩ := Dt.day_of HPAD.out (HDC.out.2 ⟨k1, k2, k3⟩)
      rw [← d1', ← Hxy.out] at q2
      rw [← d3, ← Hxd.out] at q3
      rw [← d1', ← d2, ← d3] at q1
      rw [g1] at q2
      rw [g3] at q3
      rw [Hxo.out] at g2
      have w1 : Y = Oct.numTo p1.data.toList := by exact_mod_cast q2
      have w2 : K = Oct.numTo p3.data.toList := by exact_mod_cast q3
      have w3 : M = Dt.mon p2.data.toList := by exact_mod_cast g2.symm
      rw [g4, w1, w2, w3]
      exact q1)
    have E1 := Lib.hid e1
    have E2 := Lib.hid e2
    have E3 := Lib.hid e3
    have H11 := Lib.hid h11
    clear cut e1 e2 e3 z1 z2 z3 d1 d2 d3 d1' h11 hplen
    by_cases g2 : ch2.toNat = 45
    case neg =>
      have c2 : ((ch2.toNat : Int) != 45) = true := by rw [bne_iff_ne]; omega
      have HE := Lib.hid (HNO.out (fun h => g2 (by rw [h.1]; rfl)))
      clear g2
      go_enter Tryd.func11, Tryd.ntmps11
      go_wp2
      go_ret2
      exact ⟨none, HE.out, rfl, Below.refl _ _⟩
    have c2 : ((ch2.toNat : Int) != 45) = false := by rw [bne_eq_false_iff_eq]; omega
    have G2 : Hid (ch2 = 45) := Lib.hid (UInt8.toNat_inj.1 g2)
    clear g2
    by_cases g6 : ch6.toNat = 45
    case neg =>
      have c6 : ((ch6.toNat : Int) != 45) = true := by rw [bne_iff_ne]; omega
      have HE := Lib.hid (HNO.out (fun h => g6 (by rw [h.2.1]; rfl)))
      clear g6
      go_enter Tryd.func11, Tryd.ntmps11
      go_wp2
      go_ret2
      exact ⟨none, HE.out, rfl, Below.refl _ _⟩
    have c6 : ((ch6.toNat : Int) != 45) = false := by rw [bne_eq_false_iff_eq]; omega
    have G6 : Hid (ch6 = 45) := Lib.hid (UInt8.toNat_inj.1 g6)
    clear g6
    have HGD := Lib.hid (goodDay_any xy xo xd)
    go_enter Tryd.func11, Tryd.ntmps11
    go_wp2
    refine day5 p p1 p2 p3 xy xo xd (DS w xy xo xd) (by show 33 < 43; omega) rfl H11.out E1.out E2.out E3.out ?_ ?_ ?_ (fun q R W h => h.2) ⟨(Below.refl _ _).drew, fun h => absurd h (by decide), fun h => absurd h (by decide), fun h => absurd h (by decide)⟩ ?_
    · intro R W h
      refine (HN1.out W).mono ?_
      rintro e w' ⟨rfl, rfl⟩
      exact ⟨_, rfl, h.1, fun _ => setR_self _ _ _, fun h => absurd h (by decide), fun h => absurd h (by decide)⟩
    · intro R W h
      refine (HMO.out W h.1).mono ?_
      rintro e w' ⟨rfl, hb⟩
      exact ⟨_, rfl, h.1.trans (hb.mono h.1.size), fun _ => by rw [setR_ne _ _ (by decide)]; exact h.2.1 (by decide), fun _ => setR_self _ _ _, fun h => absurd h (by decide)⟩
    · intro R W h
      refine (HN3.out W).mono ?_
      rintro e w' ⟨rfl, rfl⟩
      exact ⟨_, rfl, h.1, fun _ => by rw [setR_ne _ _ (by decide)]; exact h.2.1 (by decide), fun _ => by rw [setR_ne _ _ (by decide)]; exact h.2.2.1 (by decide), fun _ => setR_self _ _ _⟩
    intro af w2 hfr h4 h5 h6 hS
    have HB2 := Lib.hid hS.1
    clear hS
    have ha := hfr.eq (by intro t ht; simp at ht; show t < 43; omega)
    simp only [List.foldl_cons, List.foldl_nil] at ha
    clear hfr
    rw [h4] at ha
    clear h4
    rw [h5] at ha
    clear h5
    rw [h6] at ha
    clear h6
    generalize af.eval (.tmp 25) = u25 at ha
    generalize af.eval (.tmp 26) = u26 at ha
    generalize af.eval (.tmp 27) = u27 at ha
    generalize af.eval (.tmp 28) = u28 at ha
    generalize af.eval (.tmp 29) = u29 at ha
    generalize af.eval (.tmp 30) = u30 at ha
    generalize af.eval (.tmp 31) = u31 at ha
    generalize af.eval (.tmp 32) = u32 at ha
    generalize af.eval (.tmp 33) = u33 at ha
    subst ha
    simp only [Act.put, List.setIfInBounds_toArray, List.set_cons_zero, List.set_cons_succ]
    by_cases hg : Dt.GDay xy xo xd
    case neg =>
      have HD := Lib.hid (decide_eq_false hg)
      have HE := Lib.hid (HNO.out (fun h => hg h.2.2))
      clear hg
      go_wp2_with fail
      refine (HGD.out _).mono ?_
      rintro e w3 ⟨rfl, rfl⟩
      rw [HD.out]
      go_wp2
      go_ret2
      exact ⟨none, HE.out, rfl, HB2.out⟩
    have HD := Lib.hid (decide_eq_true hg)
    have HG := Lib.hid hg
    obtain ⟨a1, a2, a3, a4, a5, a6⟩ := hg
    obtain ⟨Y, rfl⟩ : ∃ Y : Nat, xy = (Y : Int) := ⟨xy.toNat, by omega⟩
    obtain ⟨M, rfl⟩ : ∃ M : Nat, xo = (M : Int) := ⟨xo.toNat, by omega⟩
    obtain ⟨K, rfl⟩ : ∃ K : Nat, xd = (K : Int) := ⟨xd.toNat, by omega⟩
    simp only [Int.toNat_natCast] at a6
    have hdm := (Dt.dm_pos Y M).2
    obtain ⟨n, HNn⟩ : ∃ n : Nat, Hid (n = Dt.num Y M K) := ⟨_, Lib.hid rfl⟩
    have hn : n < 2932897 := by rw [HNn.out]; exact Dt.num_lt_top (by omega) (by omega) (by omega) (by omega) (by omega) (by omega)
    have HDN := Lib.hid (dayNumber_any Y M K (n : Int) (by rw [HNn.out]) (by omega) (by omega) (by omega) (by omega) (by omega) (by omega))
    have HE := Lib.hid (HYES.out n Y M K G2.out G6.out HG.out rfl rfl rfl HNn.out)
    have i1 : IntKind.i64.wrap (n : Int) = (n : Int) := IntWalk.i64_in _ (by omega)
    clear a1 a2 a3 a4 a5 a6 hdm
    go_wp2_with fail
    refine (HGD.out _).mono ?_
    rintro e w3 ⟨rfl, rfl⟩
    rw [HD.out]
    go_wp2_with fail
    refine (HDN.out _).mono ?_
    rintro e w3 ⟨rfl, rfl⟩
    go_wp2
    go_ret2
    exact ⟨some n, HE.out, rfl, HB2.out⟩
end Go.Proofs.YtgkibkophoikoaaDoor
