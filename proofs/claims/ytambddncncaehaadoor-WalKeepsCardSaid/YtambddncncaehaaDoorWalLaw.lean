/- A device and its log in a law's walk: what each call makes of them, where no fall is arranged. -/
import Derived.Test.YtambddncncaehaaDoorWalOpen
import Derived.Test.YtambddncncaehaaDoorWalKeep
import Derived.Test.YtambddncncaehaaDoorWalAll
import Derived.Test.YtambddncncaehaaDoorDevNew
import Derived.Test.YtambddncncaehaaDoorDevCrash
import Derived.Test.YtambddncncaehaaDoorDevArm
namespace Go.Proofs.YtambddncncaehaaDoor
open Go.RowKit Dk Wl
set_option linter.unusedVariables false
set_option maxRecDepth 100000

/-- Power, nothing unsafe, no fuse; the log L stands on it. -/
structure Sane (S : Disk) (sz : Nat) (L : Lg) : Prop where
  on : S.off = false
  safe : S.cache = []
  calm : S.calls = 0
  holds : Holds S.dur sz L
theorem Sane.last {S : Disk} {sz : Nat} {L : Lg} (h : Sane S sz L) : S.last = S.dur := by unfold Disk.last; rw [h.safe]; rfl
/-- The device alone. -/
structure LawD (B : Nat) (w0 w : World) (F : List Nat) (d : Nat) (S : Disk) : Prop where
  dev : DevM w F d S
  fB : ∀ b, b ∈ F → B ≤ b
  bel : Below B w0 w
  size : B ≤ w.heap.size
  tab : TabAt w tabG
  tB : tabG < B
/-- Device and log. -/
structure Law (B : Nat) (w0 w : World) (F G : List Nat) (d l : Nat) (S : Disk) (sz : Nat) (L : Lg) (dn : Bool) : Prop where
  both : Both w F G d l S sz L dn
  fB : ∀ b, b ∈ F → B ≤ b
  gB : ∀ b, b ∈ G → B ≤ b
  bel : Below B w0 w
  size : B ≤ w.heap.size
  tB : tabG < B
section
variable {B : Nat} {w0 w w' : World} {F F' G G' : List Nat} {d l sz : Nat} {S S' : Disk} {L L' : Lg} {dn dn' : Bool}
theorem Law.toD (h : Law B w0 w F G d l S sz L dn) : LawD B w0 w F d S := ⟨h.both.1.dev, h.fB, h.bel, h.size, h.both.1.tab, h.tB⟩
theorem LawD.below (h : LawD B w0 w F d S) (hb : Below w.heap.size w w') : LawD B w0 w' F d S := ⟨h.dev.below hb, h.fB, h.bel.trans (hb.mono h.size), Nat.le_trans h.size hb.size, h.tab.below hb (Nat.le_refl _), h.tB⟩
theorem Law.below (h : Law B w0 w F G d l S sz L dn) (hb : Below w.heap.size w w') : Law B w0 w' F G d l S sz L dn := ⟨⟨h.both.1.below hb, h.both.2⟩, h.fB, h.gB, h.bel.trans (hb.mono h.size), Nat.le_trans h.size hb.size, h.tB⟩
theorem LawD.turn (h : LawD B w0 w F d S) (hd : DevM w' F' d S') (ho : Only F w w') (hg : Grows F F' w) : LawD B w0 w' F' d S' :=
  ⟨hd, fun b hb => (hg b hb).elim (h.fB b) (fun h' => Nat.le_trans h.size h'), h.bel.trans (ho.below h.size h.fB), Nat.le_trans h.size ho.size, h.tab.only ho (fun hm => by have := h.fB _ hm; have := h.tB; omega), h.tB⟩
theorem Law.turn (h : Law B w0 w F G d l S sz L dn) (hb : Both w' F' G' d l S' sz L' dn') (ht : Turns F G F' G' w w') : Law B w0 w' F' G' d l S' sz L' dn' :=
  ⟨hb, fun b hb' => (ht.gF b hb').elim (h.fB b) (fun h' => Nat.le_trans h.size h'), fun b hb' => (ht.gG b hb').elim (h.gB b) (fun h' => Nat.le_trans h.size h'), h.bel.trans (ht.only.below h.size (fun b hb' => (List.mem_append.1 hb').elim (h.fB b) (h.gB b))), Nat.le_trans h.size ht.only.size, h.tB⟩
/-- The device turned beside its log. -/
theorem Law.turnD (h : Law B w0 w F G d l S sz L dn) (hd : DevM w' F' d S') (ho : Only F w w') (hg : Grows F F' w) (hlen : S'.dur.length = S.dur.length) : Law B w0 w' F' G d l S' sz L dn :=
  h.turn ⟨h.both.1.turn hd ho hg, h.both.2.1, h.both.2.2.1, by rw [hlen]; exact h.both.2.2.2⟩ (Turns.dev ho hg)
theorem Law.szLe (h : Law B w0 w F G d l S sz L dn) : sz ≤ 8192 := by
  obtain ⟨_, _, _, _, _, _, _, _, _, _, _, _, _, _, hdl⟩ := h.both.1.dev
  have := h.both.2.2.2; omega
/-- Another log, left alone. -/
theorem LogI.turns {Gx : List Nat} {dx lx szx hx ux : Nat} {tx bx : List UInt8} {rx : List (List UInt8)} {dx' : Bool} (h : LogI w Gx lx dx szx hx ux tx bx rx dx') (ht : Turns F G F' G' w w') (hF : Apart Gx F) (hG : Apart Gx G) : LogI w' Gx lx dx szx hx ux tx bx rx dx' ∧ Apart Gx F' ∧ Apart Gx G' :=
  ⟨h.only ht.only (fun b hb hm => (List.mem_append.1 hm).elim (hF b hb) (hG b hb)), fun b hb hm => (ht.gF b hm).elim (hF b hb) (fun h' => by have := h.lt b hb; omega), fun b hb hm => (ht.gG b hm).elim (hG b hb) (fun h' => by have := h.lt b hb; omega)⟩

/-- What a call on a sane log ends in. -/
def LawEnd (B : Nat) (w0 : World) (F G : List Nat) (d l : Nat) (S : Disk) (sz : Nat) (L' : Lg) (v : Value) (w : World) (e : Ending) (w' : World) : Prop :=
  e = .returned v ∧ ∃ F' G' S', Law B w0 w' F' G' d l S' sz L' false ∧ Sane S' sz L' ∧ Turns F G F' G' w w' ∧ S'.dur.length = S.dur.length
theorem LawEnd.of_wal {e : Ending} (h : Law B w0 w F G d l S sz L false) (hs : Sane S sz L) (he : WalEnd F G d l S sz L L' w e w') : LawEnd B w0 F G d l S sz L' (.int .i64 0) w e w' := by
  obtain ⟨er, F', G', S', rfl, ht, hl, ⟨rfl, o1, o2, o3, o4, o5⟩ | ⟨_, _, _, _, o5⟩⟩ := he
  · exact ⟨rfl, F', G', S', h.turn o4 ht, ⟨o1, o2, o5.1 hs.calm, o3⟩, ht, hl⟩
  · exact o5.1.elim (fun h => absurd hs.calm h) (fun h => absurd h (by rw [hs.on]; decide))
theorem law_add (h : Law B w0 w F G d l S sz L false) (hs : Sane S sz L) (A : Option Addr) (n c : Nat) (body : List UInt8) (hn : n = body.length) (hnc : n ≤ c) (hcm : c ≤ maxLen) (hse : Sees w w.heap.size A body) (hA : body ≠ [] → ∀ a, A = some a → a.block ∉ F ∧ a.block ∉ G) (hb : body.length ≤ 200000) (hfit : L.used + (body.length + 16) ≤ sz * 512) :
    Calls Tryd.prog 11 #[.pointer (some ⟨l, 0, none⟩), .slice A n c] w (LawEnd B w0 F G d l S sz (L.add body) (.int .i64 0) w) :=
  (add_ok h.both hs.safe hs.holds A n c body hn hnc hcm hse hA hb hfit).mono fun e w' he => LawEnd.of_wal h hs he
theorem law_keep (h : Law B w0 w F G d l S sz L false) (hs : Sane S sz L) (A : Option Addr) (n c : Nat) (body : List UInt8) (hn : n = body.length) (hnc : n ≤ c) (hcm : c ≤ maxLen) (hse : Sees w w.heap.size A body) (hA : body ≠ [] → ∀ a, A = some a → a.block ∉ F ∧ a.block ∉ G) (hb : body.length ≤ 200000) (hfit : body.length + 16 ≤ sz * 512) :
    Calls Tryd.prog 12 #[.pointer (some ⟨l, 0, none⟩), .slice A n c] w (LawEnd B w0 F G d l S sz (L.keep body) (.int .i64 0) w) :=
  (keep_ok h.both hs.safe hs.holds A n c body hn hse hA hb hfit).mono fun e w' he => LawEnd.of_wal h hs he
/-- A row laid since. -/
theorem LawEnd.since {w1 : World} {v : Value} {e : Ending} (hb : Below w.heap.size w w1) (he : LawEnd B w0 F G d l S sz L' v w1 e w') : LawEnd B w0 F G d l S sz L' v w e w' := by
  obtain ⟨h1, F', G', S', h2, h3, h4, h5⟩ := he
  exact ⟨h1, F', G', S', h2, h3, (Turns.of_below hb).trans h4, h5⟩
/-- An argument in a new block. -/
theorem law_addNew {w1 : World} (h : Law B w0 w F G d l S sz L false) (hs : Sane S sz L) (hb1 : Below w.heap.size w w1) (g n c : Nat) (body : List UInt8) (hn : n = body.length) (hnc : n ≤ c) (hcm : c ≤ maxLen) (hse : Sees w1 w1.heap.size (some ⟨g, 0, none⟩) body) (hg : w.heap.size ≤ g) (hb : body.length ≤ 200000) (hfit : L.used + (body.length + 16) ≤ sz * 512) :
    Calls Tryd.prog 11 #[.pointer (some ⟨l, 0, none⟩), .slice (some ⟨g, 0, none⟩) n c] w1 (LawEnd B w0 F G d l S sz (L.add body) (.int .i64 0) w) :=
  (law_add (h.below hb1) hs _ n c body hn hnc hcm hse (fun _ a ha => by
    injection ha with ha; subst ha
    exact ⟨fun hm => by have := h.both.1.dev.lt _ hm; simp at this; omega, fun hm => by have := h.both.1.log.lt _ hm; simp at this; omega⟩) hb hfit).mono fun e w' he => LawEnd.since hb1 he
theorem law_keepNew {w1 : World} (h : Law B w0 w F G d l S sz L false) (hs : Sane S sz L) (hb1 : Below w.heap.size w w1) (g n c : Nat) (body : List UInt8) (hn : n = body.length) (hnc : n ≤ c) (hcm : c ≤ maxLen) (hse : Sees w1 w1.heap.size (some ⟨g, 0, none⟩) body) (hg : w.heap.size ≤ g) (hb : body.length ≤ 200000) (hfit : body.length + 16 ≤ sz * 512) :
    Calls Tryd.prog 12 #[.pointer (some ⟨l, 0, none⟩), .slice (some ⟨g, 0, none⟩) n c] w1 (LawEnd B w0 F G d l S sz (L.keep body) (.int .i64 0) w) :=
  (law_keep (h.below hb1) hs _ n c body hn hnc hcm hse (fun _ a ha => by
    injection ha with ha; subst ha
    exact ⟨fun hm => by have := h.both.1.dev.lt _ hm; simp at this; omega, fun hm => by have := h.both.1.log.lt _ hm; simp at this; omega⟩) hb hfit).mono fun e w' he => LawEnd.since hb1 he

/-- dev.New. -/
theorem law_new (n : Nat) (h1 : 1 ≤ n) (h2 : n ≤ 8192) (hb : Below B w0 w) (hB : B ≤ w.heap.size) (ht : TabAt w tabG) (htB : tabG < B) :
    Calls Tryd.prog 9 #[.int .i64 (n : Int)] w fun e w' => ∃ d F, e = .returned (.tuple #[.pointer (some ⟨d, 0, none⟩), .int .i64 0]) ∧ LawD B w0 w' F d (fresh n) ∧ Below w.heap.size w w' :=
  (new_any n h1 h2 w).mono fun e w' ⟨d, F, he, hd, hbel, hF⟩ => ⟨d, F, he, ⟨hd, fun b hb => by have := hF b hb; omega, hb.trans (hbel.mono hB), Nat.le_trans hB hbel.size, ht.below hbel (Nat.le_refl _), htB⟩, hbel⟩
/-- wal.Open. -/
def LawOpen (B : Nat) (w0 : World) (F : List Nat) (d : Nat) (S : Disk) (sz : Nat) (L : Lg) (w : World) (e : Ending) (w' : World) : Prop :=
  ∃ l G, e = .returned (.tuple #[.pointer (some ⟨l, 0, none⟩), .int .i64 0]) ∧ Law B w0 w' F G d l S sz L false ∧ Below w.heap.size w w' ∧ ∀ b, b ∈ G → w.heap.size ≤ b
theorem law_open (h : LawD B w0 w F d S) (ho : S.off = false) (hc : S.cache = []) (hH : Holds S.dur sz L) (hn : 8 ≤ S.dur.length) (hsz : sz = (S.dur.length - 1) / 2) (hL : L.Ok sz) :
    Calls Tryd.prog 10 #[.pointer (some ⟨d, 0, none⟩)] w (LawOpen B w0 F d S sz L w) := by
  have hla : S.last = S.dur := by unfold Disk.last; rw [hc]; rfl
  refine (open_ok w h.dev ho hn hsz hL (by rw [hla]; exact hH) h.tab).mono ?_
  rintro e w' ⟨l, G, rfl, hl, hb, hG⟩
  have hd := h.below hb
  have hap : ∀ b, b ∈ F → b ∉ G := fun b hb hm => by have := h.dev.lt b hb; have := hG b hm; omega
  exact ⟨l, G, rfl, ⟨⟨⟨hd.dev, hl, hap, hd.tab, fun hm => by have := h.fB _ hm; have := h.tB; omega, fun hm => by have := hG _ hm; have := h.tB; have := h.size; omega⟩, hL, by omega, by omega⟩, h.fB, fun b hb' => by have := hG b hb'; have := h.size; omega, hd.bel, hd.size, h.tB⟩, hb, hG⟩
/-- Crash and On, nothing unsafe. -/
theorem crash_safe {S : Disk} (ho : S.off = false) (hc : S.cache = []) (keep : List Int) (torn : Int) : S.crash keep torn = ⟨S.dur, [], true, 0, [], 0⟩ := by
  unfold Disk.crash
  rw [ho, hc]
  rfl
end
end Go.Proofs.YtambddncncaehaaDoor
