/- implied for all fuels, and with it Parse without a premise. No statement of the seat is proved here. -/
import Derived.Test.YtomldkljlbdnjaaGreatSynZpCutJBinds
import Derived.Test.YtomldkljlbdnjaaGreatSynZnCutJBinds
import Derived.Test.YtomldkljlbdnjaaGreatSynZrCutJBinds
namespace Go.Proofs.YtomldkljlbdnjaaGreat
open Go.RowKit
set_option linter.unusedVariables false
namespace Syn
open Lex (T TL tx bs tkC FV IsNm hide)
theorem imp_at (en g lo : Nat) : Imp en g lo := fun N hop => implied_try en g lo N fun m hm => hop m hm 2 (by decide) (by decide)
theorem prog_at (en g lo m : Nat) : Sp 26 ShR .program en g lo m := (all_at en g lo (imp_at en g lo) m).program
theorem parse_n (s : ByteArray) (w : World) (hs : s.size ≤ 9223372036854775807) (n : Nat) (hn : ∀ ts c a, Lex.Out (bs s) ts c a → c = 0 → P s.size n .program 0 ts ≠ .out) : Calls Tryz.prog 10 #[.string s] w fun e w' => PaEnd w s e w' := parse_any s w hs (fun g lo m => prog_at s.size g lo m) (fun _ => n) hn
end Syn
end Go.Proofs.YtomldkljlbdnjaaGreat
